package sps_test

import (
	"math"
	"slices"
	"strconv"
	"strings"
	"testing"

	"spindle/api"
	"spindle/sps"
)

// numbers yields the same numbers in every run.
type numbers uint64

func (x *numbers) below(n int) int {
	*x ^= *x << 13
	*x ^= *x >> 7
	*x ^= *x << 17
	return int(uint64(*x) % uint64(n))
}

// set returns a valid parameter set; often its numbers are the least or the greatest ones.
func (x *numbers) set() api.Sps {
	from := func(least, most int) int {
		switch x.below(4) {
		case 0:
			return least
		case 1:
			return most
		}
		return least + x.below(most-least+1)
	}
	s := api.Sps{Profile: uint8(from(0, 255)), Flags: uint8(from(0, 255)), Level: uint8(from(0, 255)), ID: from(0, 31),
		FrameBits: from(4, 16), PocBits: from(4, 16), Refs: from(0, 16), Width: from(1, 128)}
	s.Height = from(1, min(128, 8160/s.Width))
	return s
}

func example() api.Sps {
	return api.Sps{Profile: 77, Level: 10, FrameBits: 4, PocBits: 4, Refs: 1, Width: 1, Height: 1}
}

// The bits are spelt here as S1 and S3 say them, apart from the package.

// element is a number of a payload: n bits, or ue if n is 0, with what it is less than the field that it stands for.
type element struct {
	n           int
	field       func(x *api.Sps) int // nil: fixed
	less        int
	least, most int // of what is written
}

func fixed(n, v int) element { return element{n, nil, 0, v, v} }

func octet(field func(x *api.Sps) int) element { return element{8, field, 0, 0, 255} }

// elements returns the numbers of a payload, for a greatest height.
func elements(height int) []element {
	return []element{
		octet(func(x *api.Sps) int { return int(x.Profile) }),
		octet(func(x *api.Sps) int { return int(x.Flags) }),
		octet(func(x *api.Sps) int { return int(x.Level) }),
		{0, func(x *api.Sps) int { return x.ID }, 0, 0, 31},
		{0, func(x *api.Sps) int { return x.FrameBits }, 4, 0, 12},
		fixed(0, 0),
		{0, func(x *api.Sps) int { return x.PocBits }, 4, 0, 12},
		{0, func(x *api.Sps) int { return x.Refs }, 0, 0, 16},
		fixed(1, 0),
		{0, func(x *api.Sps) int { return x.Width }, 1, 0, 127},
		{0, func(x *api.Sps) int { return x.Height }, 1, 0, height - 1},
		fixed(4, 12),
	}
}

const (
	widthAt  = 9 // among the elements
	heightAt = 10
)

// values returns the numbers of the payload of a parameter set.
func values(x api.Sps) []int {
	var vs []int
	for _, e := range elements(128) {
		v := e.least
		if e.field != nil {
			v = e.field(&x) - e.less
		}
		vs = append(vs, v)
	}
	return vs
}

// set returns the parameter set that has the numbers.
func set(vs []int) api.Sps {
	return api.Sps{Profile: uint8(vs[0]), Flags: uint8(vs[1]), Level: uint8(vs[2]), ID: vs[3], FrameBits: vs[4] + 4,
		PocBits: vs[6] + 4, Refs: vs[7], Width: vs[9] + 1, Height: vs[10] + 1}
}

func zeros(n int) string { return strings.Repeat("0", n) }

func code(n, v int) string {
	if n > 0 {
		s := strconv.FormatInt(int64(v), 2)
		return zeros(n-len(s)) + s
	}
	s := strconv.FormatInt(int64(v)+1, 2)
	return zeros(len(s)-1) + s
}

// codes returns the codes of the numbers of a payload.
func codes(vs []int) []string {
	var cs []string
	for i, e := range elements(128) {
		cs = append(cs, code(e.n, vs[i]))
	}
	return cs
}

// padded returns bits as whole bytes, with zeros after them.
func padded(text string) string {
	text += zeros((8 - len(text)%8) % 8)
	b := make([]byte, len(text)/8)
	for i := range b {
		v, _ := strconv.ParseUint(text[8*i:8*i+8], 2, 8)
		b[i] = byte(v)
	}
	return string(b)
}

// payload returns codes, and the trailing bits, as bytes.
func payload(cs []string) string { return padded(strings.Join(cs, "") + "1") }

// spell returns the bits of bytes.
func spell(s string) string {
	text := ""
	for i := range len(s) {
		text += code(8, int(s[i]))
	}
	return text
}

// next returns the number at the beginning of bits, and the bits after it.
func next(n int, text string) (int, string, api.Errno) {
	if n == 0 {
		k := strings.IndexByte(text, '1')
		if strings.HasPrefix(text, zeros(32)) {
			return 0, "", api.ErrForm
		}
		if k < 0 || len(text) < 2*k+1 {
			return 0, "", api.ErrShort
		}
		v, _, e := next(2*k+1, text)
		return v - 1, text[2*k+1:], e
	}
	if len(text) < n {
		return 0, "", api.ErrShort
	}
	v, _ := strconv.ParseInt(text[:n], 2, 64)
	return int(v), text[n:], api.OK
}

// decode is the chapter's definition of Decode.
func decode(s string) (api.Sps, api.Errno) {
	text := spell(s)
	es := elements(128)
	var vs []int
	for i := range es {
		e := es[i]
		v, after, err := next(e.n, text)
		switch {
		case err != api.OK:
			return api.Sps{}, err
		case e.field == nil && v != e.least:
			return api.Sps{}, api.ErrKind
		case v < e.least || v > e.most:
			return api.Sps{}, api.ErrRange
		case i == widthAt:
			es[heightAt].most = min(128, 8160/(v+1)) - 1
		}
		vs = append(vs, v)
		text = after
	}
	switch {
	case text == "":
		return api.Sps{}, api.ErrShort
	case len(text) > 8 || strings.TrimRight(text, "0") != "1":
		return api.Sps{}, api.ErrForm
	}
	return set(vs), api.OK
}

// wantDecoded compares Decode with its definition, and returns its error.
func wantDecoded(t *testing.T, s string) api.Errno {
	t.Helper()
	want, err := decode(s)
	got, e := sps.Decode(s)
	if got != want || e != err {
		t.Fatalf("Decode(%v) = %+v, %d; want %+v, %d", []byte(s), got, e, want, err)
	}
	return e
}

func wantError(t *testing.T, s string, err api.Errno) {
	t.Helper()
	if x, e := sps.Decode(s); e != err || x != (api.Sps{}) {
		t.Fatalf("Decode(%v) = %+v, %d; want %d", []byte(s), x, e, err)
	}
}

// wantCheck checks both functions that look at whether a parameter set is valid.
func wantCheck(t *testing.T, x api.Sps, err api.Errno) {
	t.Helper()
	if e := sps.Check(x); e != err {
		t.Errorf("Check(%+v) = %d; want %d", x, e, err)
	}
	if s, e := sps.Encode(x); e != err || (s == "") != (err != api.OK) {
		t.Errorf("Encode(%+v) = %v, %d; want %d", x, []byte(s), e, err)
	}
}

// encoded returns the payload of a valid parameter set.
func encoded(t *testing.T, x api.Sps) string {
	t.Helper()
	s, e := sps.Encode(x)
	if e != api.OK {
		t.Fatalf("Encode(%+v) = %d", x, e)
	}
	return s
}

func TestExamples(t *testing.T) { // P6.1, P6.2, P6.3
	want := "\x4d\x00\x0a\xf4\xf2"
	if s := encoded(t, example()); s != want {
		t.Errorf("Encode = %v", []byte(s))
	}
	if x, e := sps.Decode(want); x != example() || e != api.OK {
		t.Errorf("Decode = %+v, %d", x, e)
	}
	wantError(t, want[:4], api.ErrShort)
	wantError(t, want+"\x00", api.ErrForm)
	wantError(t, want[:4]+"\xfa", api.ErrKind)
	wantError(t, "", api.ErrShort)
	wantCheck(t, example(), api.OK)
	wantCheck(t, api.Sps{}, api.ErrRange)
}

func TestCheckLimits(t *testing.T) { // P6.1, P6.2
	for _, x := range []struct {
		field       func(x *api.Sps) *int
		least, most int
	}{
		{func(x *api.Sps) *int { return &x.ID }, 0, 31},
		{func(x *api.Sps) *int { return &x.FrameBits }, 4, 16},
		{func(x *api.Sps) *int { return &x.PocBits }, 4, 16},
		{func(x *api.Sps) *int { return &x.Refs }, 0, 16},
		{func(x *api.Sps) *int { return &x.Width }, 1, 128},
		{func(x *api.Sps) *int { return &x.Height }, 1, 128},
	} {
		for _, v := range []int{math.MinInt, -1 << 32, -1, 0, 1, 2, 3, 4, 5, 12, 13, 15, 16, 17, 31, 32, 33, 127, 128, 129, 255, 256, 1 << 16, 1 << 32, 1<<32 + 4, math.MaxInt} {
			s := example()
			*x.field(&s) = v
			want := api.OK
			if v < x.least || v > x.most {
				want = api.ErrRange
			}
			wantCheck(t, s, want)
		}
	}
}

func TestCheckSizes(t *testing.T) { // P6.1: every width with every height
	x := example()
	for x.Width = -1; x.Width <= 140; x.Width++ {
		for x.Height = -1; x.Height <= 140; x.Height++ {
			want := api.ErrRange
			if x.Width >= 1 && x.Width <= 128 && x.Height >= 1 && x.Height <= 128 && x.Width*x.Height <= 8160 {
				want = api.OK
			}
			if e := sps.Check(x); e != want {
				t.Fatalf("Check of %d x %d = %d; want %d", x.Width, x.Height, e, want)
			}
		}
	}
	for _, w := range []int{0, 1, 1 << 32, 1 << 62, math.MinInt, math.MaxInt} {
		for _, h := range []int{0, 1 << 32, 1 << 62, math.MinInt, math.MaxInt} {
			x.Width, x.Height = w, h
			wantCheck(t, x, api.ErrRange)
		}
	}
}

func TestAnyProfile(t *testing.T) { // P6.1, P6.2, P6.3: Profile, Flags and Level may be any
	for i := range 256 {
		x := example()
		x.Profile, x.Flags, x.Level = uint8(i), uint8(i+85), uint8(i+170)
		s := encoded(t, x)
		if s[0] != x.Profile || s[1] != x.Flags || s[2] != x.Level {
			t.Fatalf("Encode(%+v) = %v", x, []byte(s))
		}
		if y, e := sps.Decode(s); y != x || e != api.OK {
			t.Fatalf("Decode(%v) = %+v, %d", []byte(s), y, e)
		}
	}
}

func TestEncode(t *testing.T) { // P6.2, P6.4, P6.5
	n := numbers(1)
	lengths := map[int]int{}
	for range 20000 {
		x := n.set()
		s := encoded(t, x)
		if want := payload(codes(values(x))); s != want {
			t.Fatalf("Encode(%+v) = %v; want %v", x, []byte(s), []byte(want))
		}
		if y, e := sps.Decode(s); y != x || e != api.OK {
			t.Fatalf("Decode(%v) = %+v, %d; want %+v", []byte(s), y, e, x)
		}
		lengths[len(s)]++
	}
	for k := 5; k <= 12; k++ {
		if lengths[k] == 0 {
			t.Errorf("no payload of %d bytes", k)
		}
	}
	if len(lengths) != 8 {
		t.Errorf("payloads of these numbers of bytes: %v", lengths)
	}
}

func TestEveryNumber(t *testing.T) { // P6.3: each element with each of its numbers, and sizes at their limits
	for i, e := range elements(128) {
		for v := range min(greatest(e), e.most+3) + 1 {
			vs := values(example())
			vs[i] = v
			wantDecoded(t, payload(codes(vs)))
		}
	}
	for w := range 130 {
		for _, h := range []int{0, 8160/(w+1) - 2, 8160/(w+1) - 1, 8160 / (w + 1), 126, 127, 128} {
			vs := values(example())
			vs[widthAt], vs[heightAt] = w, h
			wantDecoded(t, payload(codes(vs)))
		}
	}
}

// greatest returns the greatest number that an element has a code for.
func greatest(e element) int {
	if e.n == 0 {
		return 1<<32 - 2
	}
	return 1<<e.n - 1
}

// wrong returns a code of an element with another number, and what Decode returns if it is the first one that is wrong.
func wrong(e element, v int) (string, api.Errno) {
	if e.field == nil {
		return code(e.n, v), api.ErrKind
	}
	return code(e.n, v), api.ErrRange
}

func TestOneElementIsWrong(t *testing.T) { // P6.3
	n := numbers(2)
	for range 300 {
		x := n.set()
		for i, e := range elements(min(128, 8160/x.Width)) {
			if e.n == 8 {
				continue
			}
			for _, v := range []int{0, e.least - 1, e.most + 1, e.most + 2 + n.below(40), 255, 256, 1 << 16, 1<<32 - 2} {
				if v < 0 || v > greatest(e) || v >= e.least && v <= e.most {
					continue
				}
				cs := codes(values(x))
				var err api.Errno
				cs[i], err = wrong(e, v)
				if got := wantDecoded(t, payload(cs)); got != err {
					t.Fatalf("element %d is %d: error %d; want %d", i, v, got, err)
				}
			}
			if e.n == 0 {
				cs := codes(values(x))
				cs[i] = zeros(32) + "1"
				wantError(t, payload(cs), api.ErrForm)
				wantError(t, padded(strings.Join(cs[:i], "")+zeros(24)), api.ErrShort)
			}
		}
	}
}

func TestFirstErrorWins(t *testing.T) { // P6.3, R2: two elements are wrong, or one is wrong and the payload ends
	n := numbers(3)
	seen := map[api.Errno]int{}
	for range 20000 {
		cs := codes(values(n.set()))
		for range 2 {
			i := 3 + n.below(len(cs)-3)
			e := elements(128)[i]
			switch {
			case e.n > 0:
				cs[i] = code(e.n, n.below(1<<e.n))
			case n.below(4) == 0:
				cs[i] = zeros(32 + n.below(3))
			default:
				cs[i] = code(0, n.below(200))
			}
		}
		s := payload(cs)
		seen[wantDecoded(t, s)]++
		seen[wantDecoded(t, s[:n.below(len(s)+1)])]++
		seen[wantDecoded(t, s+strings.Repeat("\x00", n.below(3)))]++
	}
	for _, e := range []api.Errno{api.OK, api.ErrRange, api.ErrForm, api.ErrShort, api.ErrKind} {
		if seen[e] < 100 {
			t.Errorf("error %d is returned %d times", e, seen[e])
		}
	}
}

func TestTrailingBits(t *testing.T) { // P6.3: the error of rbsp.End
	n := numbers(4)
	for range 2000 {
		x := n.set()
		text := strings.Join(codes(values(x)), "")
		for k := range 9 {
			end := zeros(k) + "1"
			wantDecoded(t, padded(text+end))
			wantDecoded(t, padded(text+"1"+end))
		}
		s := padded(text + "1")
		wantError(t, s+"\x00", api.ErrForm)
		wantError(t, s+"\x00\x00", api.ErrForm)
		wantError(t, s+"\x80", api.ErrForm)
		wantDecoded(t, padded(text))
		if len(text)%8 == 0 {
			wantError(t, padded(text), api.ErrShort)
			wantError(t, padded(text)+"\x00", api.ErrForm)
		}
	}
}

func TestAnyBytes(t *testing.T) { // P6.3, P6.4, P6.5: bytes, and payloads in which bits are changed
	n := numbers(5)
	accepted := 0
	for i := range 200000 {
		b := []byte(payload(codes(values(n.set()))))
		switch i % 4 {
		case 0:
			b = slices.Repeat([]byte{1}, n.below(14))
			for k := range b {
				b[k] = byte(n.below(256))
			}
		case 1:
			b = append(b, byte(n.below(256)))
			fallthrough
		default:
			for range 1 + n.below(3) {
				b[n.below(len(b))] ^= 1 << n.below(8)
			}
		}
		s := string(b)
		x, e := sps.Decode(s)
		if want, err := decode(s); x != want || e != err {
			t.Fatalf("Decode(%v) = %+v, %d; want %+v, %d", b, x, e, want, err)
		}
		if e != api.OK {
			continue
		}
		accepted++
		if sps.Check(x) != api.OK || encoded(t, x) != s || len(s) < 5 || len(s) > 12 {
			t.Fatalf("Decode(%v) = %+v, whose payload is %v", b, x, []byte(encoded(t, x)))
		}
	}
	if accepted < 10000 {
		t.Errorf("%d payloads are accepted", accepted)
	}
}

func TestNoPayloadBeginsAnother(t *testing.T) { // P6.4, P6.6
	n := numbers(6)
	made := map[string]api.Sps{}
	for range 20000 {
		x := n.set()
		x.Profile, x.Flags, x.Level = 0, 0, 0
		s := encoded(t, x)
		if y, ok := made[s]; ok && x != y {
			t.Fatalf("%+v and %+v have the payload %v", x, y, []byte(s))
		}
		made[s] = x
	}
	for s := range made {
		for k := range len(s) {
			if x, ok := made[s[:k]]; ok {
				t.Fatalf("%v begins with the payload of %+v", []byte(s), x)
			}
			if x, e := sps.Decode(s[:k]); e == api.OK {
				t.Fatalf("Decode of the first %d bytes of %v = %+v", k, []byte(s), x)
			}
		}
	}
}
