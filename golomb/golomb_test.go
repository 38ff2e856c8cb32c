package golomb_test

import (
	"math"
	"slices"
	"strconv"
	"strings"
	"testing"

	"spindle/api"
	"spindle/bits"
	"spindle/golomb"
)

const (
	maxUe = 1<<32 - 2
	maxSe = 1<<31 - 1
)

func maxUk(k int) uint64 { return (maxUe+1)<<k - 1 }

// kind is a kind of code: ue, se, te with a greatest number, or uk with an order. Numbers of se are those with their sign.
type kind struct {
	name string
	code func(v int64) string
	read func(r *bits.Reader) (int64, api.Errno)
	put  func(w *bits.Writer, v int64) api.Errno
}

// The codes are spelt here as S1 says them, apart from the package.

func ueCode(v int64) string {
	s := strconv.FormatInt(v+1, 2)
	return strings.Repeat("0", len(s)-1) + s
}

func seCode(v int64) string {
	if v > 0 {
		return ueCode(2*v - 1)
	}
	return ueCode(-2 * v)
}

func teCode(most uint64, v int64) string {
	switch most {
	case 0:
		return ""
	case 1:
		return strconv.FormatInt(1-v, 2)
	}
	return ueCode(v)
}

func ukCode(k int, v int64) string {
	step := int64(1)
	for range k {
		step *= 2
	}
	rest := ""
	for i := step / 2; i > 0; i /= 2 {
		rest += strconv.FormatInt(v/i%2, 2)
	}
	return ueCode(v/step) + rest
}

func ue() kind {
	return kind{"ue", ueCode,
		func(r *bits.Reader) (int64, api.Errno) { v, e := golomb.Ue(r); return int64(v), e },
		func(w *bits.Writer, v int64) api.Errno { return golomb.PutUe(w, uint64(v)) }}
}

func se() kind { return kind{"se", seCode, golomb.Se, golomb.PutSe} }

func te(most uint64) kind {
	return kind{"te " + strconv.FormatUint(most, 10),
		func(v int64) string { return teCode(most, v) },
		func(r *bits.Reader) (int64, api.Errno) { v, e := golomb.Te(r, most); return int64(v), e },
		func(w *bits.Writer, v int64) api.Errno { return golomb.PutTe(w, most, uint64(v)) }}
}

func uk(k int) kind {
	return kind{"uk " + strconv.Itoa(k),
		func(v int64) string { return ukCode(k, v) },
		func(r *bits.Reader) (int64, api.Errno) { v, e := golomb.Uk(r, k); return int64(v), e },
		func(w *bits.Writer, v int64) api.Errno { return golomb.PutUk(w, k, uint64(v)) }}
}

// group is a kind with numbers that it has codes for: all small ones, and those where the length of the code changes, up to the greatest.
type group struct {
	kind
	numbers []int64
}

func around(most int64) []int64 {
	var vs []int64
	for v := int64(0); v <= min(most, 300); v++ {
		vs = append(vs, v)
	}
	for p := int64(256); p <= most; p *= 2 {
		vs = append(vs, p-3, p-2, p-1, p, p+1, p+p/3)
	}
	vs = append(vs, most-2, most-1, most)
	slices.Sort(vs)
	vs = slices.Compact(vs)
	return slices.DeleteFunc(vs, func(v int64) bool { return v < 0 || v > most })
}

func signed(vs []int64) []int64 {
	var out []int64
	for _, v := range vs {
		if out = append(out, v); v != 0 {
			out = append(out, -v)
		}
	}
	return out
}

func groups() []group {
	gs := []group{{ue(), around(maxUe)}, {se(), signed(around(maxSe))}}
	for _, most := range []uint64{0, 1, 2, 3, 31, 1000, 1 << 31, maxUe - 1, maxUe} {
		gs = append(gs, group{te(most), around(int64(most))})
	}
	for k := range 9 {
		gs = append(gs, group{uk(k), around(int64(maxUk(k)))})
	}
	return gs
}

// numbers yields the same numbers in every run.
type numbers uint64

func (x *numbers) next() uint64 {
	*x ^= *x << 13
	*x ^= *x >> 7
	*x ^= *x << 17
	return uint64(*x)
}

func (x *numbers) below(n int) int { return int(x.next() % uint64(n)) }

// spelt returns a reader of which exactly the bits of s are left, and how many bits of it were read.
func spelt(t *testing.T, s string) (*bits.Reader, int) {
	t.Helper()
	lead := (8 - len(s)%8) % 8
	w := bits.Write()
	for _, c := range strings.Repeat("1", lead) + s {
		w.Put(1, uint64(c-'0'))
	}
	r := bits.Read(w.Bytes())
	if _, e := r.U(lead); e != api.OK || r.Left() != len(s) {
		t.Fatalf("a reader of %q has %d bits", s, r.Left())
	}
	return r, lead
}

// wantRead reads from a reader of the bits of s: the number, and then there is what stands after size bits; or the error, and then all of s is there.
func wantRead(t *testing.T, k kind, s string, want int64, size int, err api.Errno) {
	t.Helper()
	r, lead := spelt(t, s)
	if v, e := k.read(r); v != want || e != err {
		t.Fatalf("%s of %q: %d, %d; want %d, %d", k.name, s, v, e, want, err)
	}
	if r.Pos() != lead+size {
		t.Fatalf("%s of %q: the reader is after %d bits; want %d", k.name, s, r.Pos()-lead, size)
	}
	wantLeft(t, r, s[size:])
}

func wantLeft(t *testing.T, r *bits.Reader, want string) {
	t.Helper()
	if r.Left() != len(want) {
		t.Fatalf("%d bits are left; want %q", r.Left(), want)
	}
	for i, c := range want {
		if b, _ := r.Bit(); b != uint8(c-'0') {
			t.Fatalf("the bit %d of %q is %d", i, want, b)
		}
	}
}

func wantPut(t *testing.T, k kind, before string, v int64, err api.Errno) {
	t.Helper()
	w := bits.Write()
	for _, c := range before {
		w.Put(1, uint64(c-'0'))
	}
	want := before
	if err == api.OK {
		want += k.code(v)
	}
	if e := k.put(w, v); e != err || w.Bits() != want {
		t.Fatalf("%s of %d after %q: %q, %d; want %q, %d", k.name, v, before, w.Bits(), e, want, err)
	}
}

func TestCodesOfTheExamples(t *testing.T) { // P2.1 to P2.4
	for _, x := range []struct {
		kind
		v    int64
		code string
	}{
		{ue(), 0, "1"}, {ue(), 1, "010"}, {ue(), 2, "011"}, {ue(), 3, "00100"}, {ue(), 47, "00000110000"},
		{se(), 0, "1"}, {se(), 1, "010"}, {se(), -1, "011"}, {se(), 2, "00100"}, {se(), -2, "00101"},
		{te(0), 0, ""}, {te(1), 0, "1"}, {te(1), 1, "0"}, {te(2), 2, "011"},
		{uk(2), 0, "100"}, {uk(2), 3, "111"}, {uk(2), 4, "01000"}, {uk(2), 13, "0010001"},
	} {
		w := bits.Write()
		if e := x.put(w, x.v); e != api.OK || w.Bits() != x.code {
			t.Errorf("%s of %d: %q, %d; want %q", x.name, x.v, w.Bits(), e, x.code)
		}
		wantRead(t, x.kind, x.code, x.v, len(x.code), api.OK)
	}
}

func TestErrorsOfTheExamples(t *testing.T) { // P2.1 to P2.4
	w := bits.Write()
	for i, e := range []api.Errno{golomb.PutUe(w, 1<<32-1), golomb.PutSe(w, 1<<31), golomb.PutTe(w, 1, 2), golomb.PutUk(w, 9, 0)} {
		if e != api.ErrRange || w.Len() != 0 {
			t.Errorf("call %d: %d, %d bits", i, e, w.Len())
		}
	}
	for _, x := range []struct {
		bytes string
		v     uint64
		size  int
		e     api.Errno
	}{
		{"\x00\x00\x00\x00", 0, 0, api.ErrForm},
		{"\x00\x00\x00\x01\xff\xff\xff\xff", 1<<32 - 2, 63, api.OK},
		{"\x00\x00\x00", 0, 0, api.ErrShort},
		{"", 0, 0, api.ErrShort},
	} {
		r := bits.Read(x.bytes)
		if v, e := golomb.Ue(r); v != x.v || e != x.e || r.Pos() != x.size {
			t.Errorf("Ue of %x: %d, %d, after %d bits", x.bytes, v, e, r.Pos())
		}
	}
}

func TestReadEveryCode(t *testing.T) { // P2.1, P2.3, P2.4, P2.5
	for _, g := range groups() {
		for _, v := range g.numbers {
			code := g.code(v)
			for _, after := range []string{"", "0", "1", strings.Repeat("0", 40), strings.Repeat("1", 40), "0110100"} {
				wantRead(t, g.kind, code+after, v, len(code), api.OK)
			}
		}
	}
}

func TestWriteEveryCode(t *testing.T) { // P2.2, P2.3, P2.4
	for _, g := range groups() {
		for i, v := range g.numbers {
			wantPut(t, g.kind, "", v, api.OK)
			wantPut(t, g.kind, "1011001"[:i%8], v, api.OK)
		}
	}
}

func TestReadAfterWrite(t *testing.T) { // P2.5: numbers of all kinds, one after another
	gs := groups()
	x := numbers(1)
	for range 300 {
		w := bits.Write()
		var ks []kind
		var vs []int64
		var at []int
		for range x.below(60) {
			g := gs[x.below(len(gs))]
			v := g.numbers[x.below(len(g.numbers))]
			if e := g.put(w, v); e != api.OK {
				t.Fatal(g.name, v, e)
			}
			ks, vs, at = append(ks, g.kind), append(vs, v), append(at, w.Len())
		}
		r := bits.Read(w.Bytes())
		for i, k := range ks {
			if v, e := k.read(r); v != vs[i] || e != api.OK || r.Pos() != at[i] {
				t.Fatalf("%s: %d, %d, after %d bits; want %d, after %d", k.name, v, e, r.Pos(), vs[i], at[i])
			}
		}
	}
}

func TestCodesCutOff(t *testing.T) { // P2.1, P2.3, P2.4: every beginning of a code, but all of it
	for _, g := range groups() {
		for _, v := range g.numbers {
			code := g.code(v)
			for n := range code {
				wantRead(t, g.kind, code[:n], 0, 0, api.ErrShort)
			}
		}
	}
}

func TestZerosOnly(t *testing.T) { // P2.1, P2.3, P2.4: 32 zeros are no code, fewer are too short
	kinds := []kind{ue(), se(), te(2), te(31), te(maxUe), uk(0), uk(1), uk(5), uk(8)}
	for _, k := range kinds {
		for n := range 32 {
			wantRead(t, k, strings.Repeat("0", n), 0, 0, api.ErrShort)
		}
		for _, after := range []string{"", "0", "1", strings.Repeat("0", 64), strings.Repeat("1", 33), "1" + strings.Repeat("0", 32), strings.Repeat("1", 80)} {
			wantRead(t, k, strings.Repeat("0", 32)+after, 0, 0, api.ErrForm)
		}
	}
	zeros := strings.Repeat("0", 32)
	wantRead(t, te(0), zeros, 0, 0, api.OK)
	wantRead(t, te(1), zeros, 1, 1, api.OK)
}

func TestLongestCodes(t *testing.T) { // P2.1, P2.4: 31 zeros
	zeros, ones := strings.Repeat("0", 31), strings.Repeat("1", 31)
	wantRead(t, ue(), zeros+"1"+zeros, 1<<31-1, 63, api.OK)
	wantRead(t, ue(), zeros+"1"+ones, maxUe, 63, api.OK)
	wantRead(t, ue(), zeros+"1"+ones[1:], 0, 0, api.ErrShort)
	wantRead(t, se(), zeros+"1"+ones[1:]+"0", maxSe, 63, api.OK)
	wantRead(t, se(), zeros+"1"+ones, -maxSe, 63, api.OK)
	for k := range 9 {
		rest := ones[:k]
		wantRead(t, uk(k), zeros+"1"+ones+rest, int64(maxUk(k)), 63+k, api.OK)
		if k > 0 {
			wantRead(t, uk(k), zeros+"1"+ones+rest[1:], 0, 0, api.ErrShort)
		}
	}
}

func TestPutUeRange(t *testing.T) { // P2.2
	for _, v := range []uint64{maxUe + 1, maxUe + 2, 1 << 33, 1 << 63, math.MaxUint64 - 1, math.MaxUint64} {
		wantPut(t, ue(), "101", int64(v), api.ErrRange)
	}
	wantPut(t, ue(), "101", maxUe, api.OK)
}

func TestPutSeRange(t *testing.T) { // P2.2
	for _, v := range []int64{maxSe + 1, -maxSe - 1, 1 << 32, -1 << 32, 1 << 62, -1 << 62, math.MaxInt64, math.MinInt64, math.MinInt64 + 1} {
		wantPut(t, se(), "101", v, api.ErrRange)
	}
	wantPut(t, se(), "101", maxSe, api.OK)
	wantPut(t, se(), "101", -maxSe, api.OK)
}

func TestTeMost(t *testing.T) { // P2.3: no most is greater than MaxUe, whatever is read or written
	for _, most := range []uint64{maxUe + 1, maxUe + 2, 1 << 33, 1 << 63, math.MaxUint64} {
		for _, s := range []string{"", "1", "0", "010", strings.Repeat("0", 32)} {
			wantRead(t, te(most), s, 0, 0, api.ErrRange)
		}
		for _, v := range []uint64{0, 1, 2, maxUe, most - 1, most, math.MaxUint64} {
			wantPut(t, te(most), "01", int64(v), api.ErrRange)
		}
	}
}

func TestTeNothing(t *testing.T) { // P2.3: most is 0
	for _, s := range []string{"", "0", "1", "0110"} {
		wantRead(t, te(0), s, 0, 0, api.OK)
	}
	wantPut(t, te(0), "01", 0, api.OK)
}

func TestTeOneBit(t *testing.T) { // P2.3: most is 1
	wantRead(t, te(1), "", 0, 0, api.ErrShort)
	wantRead(t, te(1), "0", 1, 1, api.OK)
	wantRead(t, te(1), "1", 0, 1, api.OK)
	wantRead(t, te(1), "0111", 1, 1, api.OK)
	wantRead(t, te(1), "1000", 0, 1, api.OK)
}

func TestTeRange(t *testing.T) { // P2.3
	for _, most := range []uint64{0, 1, 2, 3, 4, 31, 1000, maxUe - 1} {
		for _, v := range []uint64{most + 1, most + 2, 2*most + 2, maxUe} {
			if v <= most {
				continue
			}
			wantPut(t, te(most), "01", int64(v), api.ErrRange)
			if most > 1 && v <= maxUe {
				code := ueCode(int64(v))
				wantRead(t, te(most), code, 0, 0, api.ErrRange)
				wantRead(t, te(most), code+"01", 0, 0, api.ErrRange)
				wantRead(t, te(most), code[:len(code)-1], 0, 0, api.ErrShort)
			}
		}
		wantPut(t, te(most), "01", math.MinInt64, api.ErrRange)
		wantPut(t, te(most), "01", -1, api.ErrRange)
	}
	wantPut(t, te(maxUe), "01", maxUe+1, api.ErrRange)
}

func TestUkOrder(t *testing.T) { // P2.4: there are no others than 0 to 8, whatever is read or written
	for _, k := range []int{-1, 9, -8, 10, 31, 32, 63, 64, 65, 1 << 32, 1<<32 + 1, math.MinInt, math.MaxInt} {
		for _, s := range []string{"", "1", "010", strings.Repeat("0", 32), strings.Repeat("1", 80)} {
			r, lead := spelt(t, s)
			if v, e := golomb.Uk(r, k); v != 0 || e != api.ErrRange || r.Pos() != lead {
				t.Errorf("Uk(%q, %d) = %d, %d", s, k, v, e)
			}
		}
		for _, v := range []uint64{0, 1, maxUe, math.MaxUint64} {
			w := bits.Write()
			w.Put(3, 5)
			if e := golomb.PutUk(w, k, v); e != api.ErrRange || w.Bits() != "101" {
				t.Errorf("PutUk(%d, %d) = %d, %s", k, v, e, w.Bits())
			}
		}
	}
}

func TestPutUkRange(t *testing.T) { // P2.4
	for k := range 9 {
		most := maxUk(k)
		for _, v := range []uint64{most + 1, most + 2, 2*most + 2, 1 << 41, 1 << 63, math.MaxUint64} {
			wantPut(t, uk(k), "101", int64(v), api.ErrRange)
		}
		wantPut(t, uk(k), "101", int64(most), api.OK)
	}
}

func TestOrderOfErrors(t *testing.T) { // R2: what is short comes after what has no valid argument; bits 0 before what is cut off
	wantRead(t, te(maxUe+1), "", 0, 0, api.ErrRange)
	wantRead(t, uk(9), "", 0, 0, api.ErrRange)
	wantRead(t, uk(-1), strings.Repeat("0", 32), 0, 0, api.ErrRange)
	wantRead(t, te(2), strings.Repeat("0", 33), 0, 0, api.ErrForm)
	wantRead(t, te(2), "0001", 0, 0, api.ErrShort)
	wantRead(t, te(2), "00100", 0, 0, api.ErrRange)
}

func TestNilReader(t *testing.T) { // P2.1, P2.3, P2.4, R5: before all other errors
	kinds := []kind{ue(), se()}
	for _, most := range []uint64{0, 1, 2, maxUe, maxUe + 1, math.MaxUint64} {
		kinds = append(kinds, te(most))
	}
	for _, k := range []int{0, 1, 8, 9, -1, 64, math.MinInt, math.MaxInt} {
		kinds = append(kinds, uk(k))
	}
	for _, k := range kinds {
		if v, e := k.read(nil); v != 0 || e != api.ErrNil {
			t.Errorf("%s: %d, %d", k.name, v, e)
		}
		for _, v := range []int64{0, 1, -1, maxUe, maxUe + 1, maxSe + 1, -maxSe - 1, math.MaxInt64, math.MinInt64} {
			if e := k.put(nil, v); e != api.ErrNil {
				t.Errorf("%s of %d: %d", k.name, v, e)
			}
		}
	}
}

func TestErrorsMakeNoDifference(t *testing.T) { // what is read and written after an error
	w := bits.Write()
	bad := func() {
		t.Helper()
		n := w.Len()
		for i, e := range []api.Errno{golomb.PutUe(w, maxUe+1), golomb.PutSe(w, -maxSe-1), golomb.PutTe(w, 0, 1),
			golomb.PutTe(w, maxUe+1, 0), golomb.PutUk(w, -1, 0), golomb.PutUk(w, 3, maxUk(3)+1)} {
			if e != api.ErrRange || w.Len() != n {
				t.Fatalf("call %d: %d, %d bits", i, e, w.Len())
			}
		}
	}
	for v := range uint64(20) {
		bad()
		golomb.PutUe(w, v)
	}
	bad()
	w.Put(24, 0)
	r := bits.Read(w.Bytes())
	for v := range uint64(20) {
		if v > 2 {
			golomb.Te(r, v-1)
		}
		golomb.Te(r, maxUe+1)
		golomb.Uk(r, 9)
		if got, e := golomb.Ue(r.Copy()); got != v || e != api.OK {
			t.Fatalf("%d, %d; want %d", got, e, v)
		}
		golomb.Ue(r)
	}
	at := r.Pos()
	for range 3 {
		golomb.Ue(r)
		golomb.Se(r)
		golomb.Te(r, 5)
		golomb.Uk(r, 2)
	}
	if r.Pos() != at || r.Left() < 24 {
		t.Fatalf("the reader is after %d bits; want %d", r.Pos(), at)
	}
}

func TestNoCodeBeginsAnother(t *testing.T) { // P2.6
	for _, g := range groups() {
		if len(g.numbers) == 1 {
			continue
		}
		var codes []string
		for _, v := range g.numbers {
			w := bits.Write()
			g.put(w, v)
			codes = append(codes, w.Bits())
		}
		// A code that is the beginning of another one is also the beginning of the next one in this order.
		slices.Sort(codes)
		for i := 1; i < len(codes); i++ {
			if strings.HasPrefix(codes[i], codes[i-1]) {
				t.Errorf("%s: %s, %s", g.name, codes[i-1], codes[i])
			}
		}
	}
}

func size(t *testing.T, k kind, v int64) int {
	t.Helper()
	w := bits.Write()
	if e := k.put(w, v); e != api.OK {
		t.Fatal(k.name, v, e)
	}
	return w.Len()
}

func TestLengths(t *testing.T) { // P2.7
	for _, v := range around(maxUe) {
		if n := len(strconv.FormatInt(v+1, 2)); size(t, ue(), v) != 2*n-1 {
			t.Errorf("ue of %d: %d bits", v, size(t, ue(), v))
		}
	}
	for _, v := range around(maxSe) {
		if size(t, se(), v) != size(t, se(), -v) {
			t.Errorf("se of %d: %d and %d bits", v, size(t, se(), v), size(t, se(), -v))
		}
	}
	for k := range 9 {
		for _, v := range around(int64(maxUk(k))) {
			if n := size(t, ue(), v>>k); size(t, uk(k), v) != n+k {
				t.Errorf("uk %d of %d: %d bits; want %d", k, v, size(t, uk(k), v), n+k)
			}
		}
	}
}

func TestAnyBitsAreCodes(t *testing.T) { // P2.8
	x := numbers(2)
	for range 400 {
		text := make([]byte, x.below(60))
		for i := range text {
			// Zeros more often than ones, so that there are long codes too.
			text[i] = byte(x.next() & x.next() & x.next())
		}
		r := bits.Read(string(text))
		w := bits.Write()
		for range 8 * len(text) {
			v, e := golomb.Ue(r)
			if e != api.OK {
				break
			}
			golomb.PutUe(w, v)
		}
		if w.Len() != r.Pos() {
			t.Fatalf("%x: %d bits read, %d bits written", text, r.Pos(), w.Len())
		}
		all := bits.Read(string(text))
		for i, c := range w.Bits() {
			if b, _ := all.Bit(); b != uint8(c-'0') {
				t.Fatalf("%x: the bit %d is written as %c", text, i, c)
			}
		}
	}
}

func TestOrderZeroIsUe(t *testing.T) { // S1: ue of v / 2^0
	for _, v := range around(maxUe) {
		a, b, c := bits.Write(), bits.Write(), bits.Write()
		golomb.PutUe(a, uint64(v))
		golomb.PutUk(b, 0, uint64(v))
		golomb.PutTe(c, maxUe, uint64(v))
		if a.Bits() != b.Bits() || a.Bits() != c.Bits() {
			t.Errorf("%d: %s, %s, %s", v, a.Bits(), b.Bits(), c.Bits())
		}
	}
}

func TestManyCodes(t *testing.T) { // P2.5
	w := bits.Write()
	for i := range uint64(1 << 18) {
		golomb.PutUe(w, i)
		golomb.PutSe(w, -int64(i))
	}
	r := bits.Read(w.Bytes())
	for i := range uint64(1 << 18) {
		v, e := golomb.Ue(r)
		s, f := golomb.Se(r)
		if v != i || s != -int64(i) || e != api.OK || f != api.OK {
			t.Fatalf("%d: %d, %d, %d, %d", i, v, e, s, f)
		}
	}
	if r.Pos() != w.Len() {
		t.Fatal(r.Pos(), w.Len())
	}
}
