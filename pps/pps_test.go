package pps_test

import (
	"math"
	"strconv"
	"strings"
	"testing"

	"spindle/api"
	"spindle/pps"
)

// numbers yields the same numbers in every run.
type numbers uint64

func (x *numbers) below(n int) int {
	*x ^= *x << 13
	*x ^= *x >> 7
	*x ^= *x << 17
	return int(uint64(*x) % uint64(n))
}

// values returns the numbers of a valid payload; often they are the least or the greatest ones.
func (x *numbers) values() []int {
	var vs []int
	for _, e := range elements() {
		v := e.least + x.below(e.most-e.least+1)
		switch x.below(4) {
		case 0:
			v = e.least
		case 1:
			v = e.most
		}
		vs = append(vs, v)
	}
	return vs
}

func example() api.Pps {
	return api.Pps{Refs: 1, Refs1: 1}
}

// The bits are spelt here as S1 and S3 say them, apart from the package.

// element is a number of a payload: n bits, or ue or se.
type element struct {
	n           int
	least, most int // of what is written
	err         api.Errno
}

const (
	ue = 0
	se = -1
)

// Elements, by their numbers.
const (
	idAt = iota
	spsAt
	cabacAt
	orderAt
	groupsAt
	refsAt
	refs1At
	weightsAt
	qpAt
	qsAt
	chromaAt
	deblockAt
	intraAt
	redundantAt
)

// elements returns the numbers of a payload, with the error of those that are not from least to most.
func elements() []element {
	fixed := func(n int) element { return element{n, 0, 0, api.ErrKind} }
	from := func(n, least, most int) element { return element{n, least, most, api.ErrRange} }
	return []element{
		idAt:        from(ue, 0, 31),
		spsAt:       from(ue, 0, 31),
		cabacAt:     from(1, 0, 1),
		orderAt:     fixed(1),
		groupsAt:    fixed(ue),
		refsAt:      from(ue, 0, 31),
		refs1At:     from(ue, 0, 31),
		weightsAt:   fixed(3),
		qpAt:        from(se, -26, 25),
		qsAt:        from(se, -26, 25),
		chromaAt:    from(se, -12, 12),
		deblockAt:   from(1, 0, 1),
		intraAt:     from(1, 0, 1),
		redundantAt: fixed(1),
	}
}

// set returns the parameter set that has the numbers.
func set(vs []int) api.Pps {
	return api.Pps{ID: vs[idAt], Sps: vs[spsAt], Cabac: vs[cabacAt] == 1, Refs: vs[refsAt] + 1, Refs1: vs[refs1At] + 1,
		Qp: vs[qpAt], Qs: vs[qsAt], Chroma: vs[chromaAt], Deblock: vs[deblockAt] == 1, Intra: vs[intraAt] == 1}
}

func zeros(n int) string { return strings.Repeat("0", n) }

func code(n, v int) string {
	switch {
	case n > 0:
		s := strconv.FormatInt(int64(v), 2)
		return zeros(n-len(s)) + s
	case n == se && v > 0:
		return code(ue, 2*v-1)
	case n == se:
		return code(ue, -2*v)
	}
	s := strconv.FormatInt(int64(v)+1, 2)
	return zeros(len(s)-1) + s
}

// limits returns the least and the greatest number that an element has a code for.
func limits(e element) (int, int) {
	switch e.n {
	case ue:
		return 0, 1<<32 - 2
	case se:
		return -(1<<31 - 1), 1<<31 - 1
	}
	return 0, 1<<e.n - 1
}

// codes returns the codes of the numbers of a payload.
func codes(vs []int) []string {
	var cs []string
	for i, e := range elements() {
		cs = append(cs, code(e.n, vs[i]))
	}
	return cs
}

// padded returns bits as whole bytes, with zeros after them.
func padded(text string) string {
	text += zeros((8 - len(text)%8) % 8)
	b := make([]byte, len(text)/8)
	for i := range b {
		v, _ := strconv.ParseUint(text[8*i:8*i+8], 2, 8)
		b[i] = byte(v)
	}
	return string(b)
}

// payload returns codes, and the trailing bits, as bytes.
func payload(cs []string) string { return padded(strings.Join(cs, "") + "1") }

// spell returns the bits of bytes.
func spell(s string) string {
	var text strings.Builder
	for i := range len(s) {
		text.WriteString(code(8, int(s[i])))
	}
	return text.String()
}

// next returns the number at the beginning of bits, and the bits after it.
func next(n int, text string) (int, string, api.Errno) {
	switch n {
	case ue:
		k := strings.IndexByte(text, '1')
		if strings.HasPrefix(text, zeros(32)) {
			return 0, "", api.ErrForm
		}
		if k < 0 || len(text) < 2*k+1 {
			return 0, "", api.ErrShort
		}
		v, after, e := next(2*k+1, text)
		return v - 1, after, e
	case se:
		v, after, e := next(ue, text)
		if v%2 == 1 {
			return v/2 + 1, after, e
		}
		return -v / 2, after, e
	}
	if len(text) < n {
		return 0, "", api.ErrShort
	}
	v, _ := strconv.ParseInt(text[:n], 2, 64)
	return int(v), text[n:], api.OK
}

// decode is the chapter's definition of Decode.
func decode(s string) (api.Pps, api.Errno) {
	text := spell(s)
	var vs []int
	for _, e := range elements() {
		v, after, err := next(e.n, text)
		if err != api.OK {
			return api.Pps{}, err
		}
		if v < e.least || v > e.most {
			return api.Pps{}, e.err
		}
		vs = append(vs, v)
		text = after
	}
	switch {
	case text == "":
		return api.Pps{}, api.ErrShort
	case len(text) > 8 || strings.TrimRight(text, "0") != "1":
		return api.Pps{}, api.ErrForm
	}
	return set(vs), api.OK
}

// wantDecoded compares Decode with its definition, and returns its error.
func wantDecoded(t *testing.T, s string) api.Errno {
	t.Helper()
	want, err := decode(s)
	got, e := pps.Decode(s)
	if got != want || e != err {
		t.Fatalf("Decode(%v) = %+v, %d; want %+v, %d", []byte(s), got, e, want, err)
	}
	return e
}

func wantError(t *testing.T, s string, err api.Errno) {
	t.Helper()
	if x, e := pps.Decode(s); e != err || x != (api.Pps{}) {
		t.Fatalf("Decode(%v) = %+v, %d; want %d", []byte(s), x, e, err)
	}
}

// wantCheck checks both functions that look at whether a parameter set is valid.
func wantCheck(t *testing.T, x api.Pps, err api.Errno) {
	t.Helper()
	if e := pps.Check(x); e != err {
		t.Errorf("Check(%+v) = %d; want %d", x, e, err)
	}
	if s, e := pps.Encode(x); e != err || (s == "") != (err != api.OK) {
		t.Errorf("Encode(%+v) = %v, %d; want %d", x, []byte(s), e, err)
	}
}

// encoded returns the payload of a valid parameter set.
func encoded(t *testing.T, x api.Pps) string {
	t.Helper()
	s, e := pps.Encode(x)
	if e != api.OK {
		t.Fatalf("Encode(%+v) = %d", x, e)
	}
	return s
}

func TestExamples(t *testing.T) { // P7.1, P7.2, P7.3
	x, want := example(), "\xce\x38\x80"
	if s := encoded(t, x); s != want {
		t.Errorf("Encode = %v", []byte(s))
	}
	if y, e := pps.Decode(want); y != x || e != api.OK {
		t.Errorf("Decode = %+v, %d", y, e)
	}
	x.Cabac = true
	if s := encoded(t, x); s != "\xee\x38\x80" {
		t.Errorf("Encode with Cabac = %v", []byte(s))
	}
	wantError(t, want[:2], api.ErrShort)
	wantError(t, want+"\x00", api.ErrForm)
	wantError(t, "\xde\x38\x80", api.ErrKind)
	wantError(t, "", api.ErrShort)
	wantCheck(t, x, api.OK)
	wantCheck(t, api.Pps{}, api.ErrRange)
}

func TestCheck(t *testing.T) { // P7.1, P7.2: each field at and beyond its limits
	for _, f := range []struct {
		field       func(x *api.Pps) *int
		least, most int
	}{
		{func(x *api.Pps) *int { return &x.ID }, 0, 31},
		{func(x *api.Pps) *int { return &x.Sps }, 0, 31},
		{func(x *api.Pps) *int { return &x.Refs }, 1, 32},
		{func(x *api.Pps) *int { return &x.Refs1 }, 1, 32},
		{func(x *api.Pps) *int { return &x.Qp }, -26, 25},
		{func(x *api.Pps) *int { return &x.Qs }, -26, 25},
		{func(x *api.Pps) *int { return &x.Chroma }, -12, 12},
	} {
		want := func(v int) {
			x := example()
			*f.field(&x) = v
			err := api.OK
			if v < f.least || v > f.most {
				err = api.ErrRange
			}
			wantCheck(t, x, err)
		}
		for v := -300; v <= 300; v++ {
			want(v)
		}
		for _, v := range []int{math.MinInt, -1 << 32, 1 << 16, 1 << 32, 1<<32 + 1, math.MaxInt} {
			want(v)
		}
	}
}

func TestEncode(t *testing.T) { // P7.2, P7.4, P7.5
	n := numbers(1)
	lengths := map[int]int{}
	for range 20000 {
		vs := n.values()
		x := set(vs)
		s := encoded(t, x)
		if want := payload(codes(vs)); s != want {
			t.Fatalf("Encode(%+v) = %v; want %v", x, []byte(s), []byte(want))
		}
		if y, e := pps.Decode(s); y != x || e != api.OK {
			t.Fatalf("Decode(%v) = %+v, %d; want %+v", []byte(s), y, e, x)
		}
		lengths[len(s)]++
	}
	least := encoded(t, example())
	most := encoded(t, api.Pps{ID: 31, Sps: 31, Refs: 32, Refs1: 32, Qp: -26, Qs: -26, Chroma: -12})
	if len(least) != 3 || len(most) != 11 {
		t.Errorf("the shortest payload has %d bytes, the longest one %d", len(least), len(most))
	}
	for k := range lengths {
		if k < 3 || k > 11 {
			t.Errorf("%d payloads have %d bytes", lengths[k], k)
		}
	}
}

func TestEveryNumber(t *testing.T) { // P7.3: each element with each of its numbers, and others near them
	for i, e := range elements() {
		least, most := limits(e)
		for v := max(least, e.least-40); v <= min(most, e.most+40); v++ {
			vs := make([]int, len(elements()))
			vs[i] = v
			err := api.OK
			if v < e.least || v > e.most {
				err = e.err
			}
			if got := wantDecoded(t, payload(codes(vs))); got != err {
				t.Errorf("element %d is %d: error %d; want %d", i, v, got, err)
			}
		}
	}
}

func TestOneElementIsWrong(t *testing.T) { // P7.3
	n := numbers(2)
	for range 300 {
		right := codes(n.values())
		for i, e := range elements() {
			least, most := limits(e)
			for _, v := range []int{e.least - 1, e.most + 1, e.most + 2 + n.below(40), 255, 256, -256, 1 << 16, -1 << 16, least, most} {
				if v < least || v > most || v >= e.least && v <= e.most {
					continue
				}
				cs := append([]string{}, right...)
				cs[i] = code(e.n, v)
				if got := wantDecoded(t, payload(cs)); got != e.err {
					t.Fatalf("element %d is %d: error %d; want %d", i, v, got, e.err)
				}
			}
			if e.n == ue || e.n == se {
				before := strings.Join(right[:i], "")
				wantError(t, padded(before+zeros(32)+"1"), api.ErrForm)
				wantError(t, padded(before+zeros(24)), api.ErrShort)
			}
		}
	}
}

func TestPayloadEnds(t *testing.T) { // P7.3: after each of the bits; the number u(3) 0 is not there as a whole
	n := numbers(3)
	for range 500 {
		s := payload(codes(n.values()))
		for k := range len(s) {
			wantError(t, s[:k], api.ErrShort)
		}
	}
	seen := 0
	for range 20000 {
		cs := codes(n.values())
		before := strings.Join(cs[:weightsAt], "")
		if left := (8 - len(before)%8) % 8; left == 1 || left == 2 {
			// The bits that are left are wrong, but a number that is not there as a whole is not looked at.
			wantError(t, padded(before+strings.Repeat("1", left)), api.ErrShort)
			seen++
		}
	}
	if seen < 1000 {
		t.Errorf("the number ends too early %d times", seen)
	}
}

func TestFirstErrorWins(t *testing.T) { // P7.3, R2: two elements are wrong, or one is wrong and the payload ends
	n := numbers(4)
	seen := map[api.Errno]int{}
	for range 20000 {
		cs := codes(n.values())
		for range 2 {
			i := n.below(len(cs))
			switch e := elements()[i]; {
			case e.n > 0:
				cs[i] = code(e.n, n.below(1<<e.n))
			case n.below(4) == 0:
				cs[i] = zeros(32 + n.below(3))
			default:
				cs[i] = code(ue, n.below(200))
			}
		}
		s := payload(cs)
		seen[wantDecoded(t, s)]++
		seen[wantDecoded(t, s[:n.below(len(s)+1)])]++
		seen[wantDecoded(t, s+strings.Repeat("\x00", n.below(3)))]++
	}
	for _, e := range []api.Errno{api.OK, api.ErrRange, api.ErrForm, api.ErrShort, api.ErrKind} {
		if seen[e] < 100 {
			t.Errorf("error %d is returned %d times", e, seen[e])
		}
	}
}

func TestTrailingBits(t *testing.T) { // P7.3: the error of rbsp.End
	n := numbers(5)
	whole := 0
	for range 2000 {
		text := strings.Join(codes(n.values()), "")
		for k := range 9 {
			end := zeros(k) + "1"
			wantDecoded(t, padded(text+end))
			wantDecoded(t, padded(text+"1"+end))
		}
		s := padded(text + "1")
		wantError(t, s+"\x00", api.ErrForm)
		wantError(t, s+"\x00\x00", api.ErrForm)
		wantError(t, s+"\x80", api.ErrForm)
		if len(text)%8 == 0 {
			wantError(t, padded(text), api.ErrShort)
			wantError(t, padded(text)+"\x00", api.ErrForm)
			whole++
		} else {
			wantError(t, padded(text), api.ErrForm)
		}
	}
	if whole < 100 {
		t.Errorf("%d parameter sets have whole bytes", whole)
	}
}

func TestAnyBytes(t *testing.T) { // P7.3, P7.4, P7.5: bytes, and payloads in which bits are changed
	n := numbers(6)
	accepted := 0
	for i := range 200000 {
		b := []byte(payload(codes(n.values())))
		switch i % 4 {
		case 0:
			b = make([]byte, n.below(14))
			for k := range b {
				b[k] = byte(n.below(256))
			}
		case 1:
			b = append(b, byte(n.below(256)))
			fallthrough
		default:
			for range 1 + n.below(3) {
				b[n.below(len(b))] ^= 1 << n.below(8)
			}
		}
		s := string(b)
		if wantDecoded(t, s) != api.OK {
			continue
		}
		accepted++
		x, _ := pps.Decode(s)
		if pps.Check(x) != api.OK || encoded(t, x) != s || len(s) < 3 || len(s) > 11 {
			t.Fatalf("Decode(%v) = %+v, whose payload is %v", b, x, []byte(encoded(t, x)))
		}
	}
	if accepted < 10000 {
		t.Errorf("%d payloads are accepted", accepted)
	}
}

func TestShortPayloads(t *testing.T) { // P7.3, P7.4, P7.5: all of up to two bytes, and those of three bytes that may be accepted
	for i := range 1 << 8 {
		wantDecoded(t, string([]byte{byte(i)}))
	}
	accepted := 0
	for i := range 1 << 16 {
		if e := wantDecoded(t, string([]byte{byte(i >> 8), byte(i)})); e == api.OK {
			t.Fatalf("the two bytes %x are accepted", i)
		}
		s := string([]byte{byte(i >> 8), byte(i), 128})
		if wantDecoded(t, s) == api.OK {
			x, _ := pps.Decode(s)
			if encoded(t, x) != s {
				t.Fatalf("Decode(%v) = %+v, whose payload is another one", []byte(s), x)
			}
			accepted++
		}
	}
	if accepted != 8 {
		t.Errorf("%d payloads are accepted; want one for each Cabac, Deblock and Intra", accepted)
	}
}

func TestDifferentPayloads(t *testing.T) { // P7.4
	made := map[string]api.Pps{}
	add := func(x api.Pps) {
		s := encoded(t, x)
		if y, ok := made[s]; ok && x != y {
			t.Fatalf("%+v and %+v have the payload %v", x, y, []byte(s))
		}
		made[s] = x
	}
	for i := range 32 {
		for k := range 32 {
			x := example()
			x.ID, x.Sps = i, k
			add(x)
			x = example()
			x.Refs, x.Refs1 = i+1, k+1
			add(x)
		}
	}
	for qp := -26; qp <= 25; qp++ {
		for qs := -26; qs <= 25; qs++ {
			for chroma := -12; chroma <= 12; chroma++ {
				x := example()
				x.Qp, x.Qs, x.Chroma = qp, qs, chroma
				add(x)
			}
		}
	}
	n := numbers(7)
	for range 20000 {
		add(set(n.values()))
	}
}

func TestCabacIsOneBit(t *testing.T) { // P7.6
	n := numbers(8)
	check := func(vs []int) {
		t.Helper()
		x, y := set(vs), set(vs)
		x.Cabac, y.Cabac = false, true
		a, b := spell(encoded(t, x)), spell(encoded(t, y))
		at := len(code(ue, x.ID) + code(ue, x.Sps))
		if a[at] != '0' || a[:at]+"1"+a[at+1:] != b {
			t.Fatalf("%+v: the bits %s and %s; they differ elsewhere than at %d", x, a, b, at)
		}
	}
	for i := range 32 {
		for k := range 32 {
			vs := n.values()
			vs[idAt], vs[spsAt] = i, k
			check(vs)
		}
	}
	for range 5000 {
		check(n.values())
	}
}
