package bits_test

import (
	"math"
	"strconv"
	"strings"
	"testing"

	"spindle/api"
	"spindle/bits"
)

// numbers yields the same numbers in every run.
type numbers uint64

func (x *numbers) next() uint64 {
	*x ^= *x << 13
	*x ^= *x >> 7
	*x ^= *x << 17
	return uint64(*x)
}

func (x *numbers) below(n int) int { return int(x.next() % uint64(n)) }

// ofBits returns a number of n bits; often all of them are equal.
func (x *numbers) ofBits(n int) uint64 {
	switch v := x.next() >> (64 - n); x.below(4) {
	case 0:
		return 0
	case 1:
		return math.MaxUint64 >> (64 - n)
	default:
		return v
	}
}

func (x *numbers) text(n int) string {
	b := make([]byte, n)
	for i := range b {
		b[i] = byte(x.next())
	}
	return string(b)
}

// spell returns a number as n characters.
func spell(n int, v uint64) string {
	if n == 0 {
		return ""
	}
	s := strconv.FormatUint(v, 2)
	return strings.Repeat("0", n-len(s)) + s
}

func spellText(s string) string {
	out := ""
	for i := range len(s) {
		out += spell(8, uint64(s[i]))
	}
	return out
}

func number(t *testing.T, s string) uint64 {
	t.Helper()
	if s == "" {
		return 0
	}
	v, err := strconv.ParseUint(s, 2, 64)
	if err != nil {
		t.Fatal(err)
	}
	return v
}

func wantU(t *testing.T, r *bits.Reader, n int, want uint64, err api.Errno) {
	t.Helper()
	if v, e := r.U(n); v != want || e != err {
		t.Fatalf("U(%d) = %d, %d; want %d, %d", n, v, e, want, err)
	}
}

func wantBit(t *testing.T, r *bits.Reader, want uint8, err api.Errno) {
	t.Helper()
	if v, e := r.Bit(); v != want || e != err {
		t.Fatalf("Bit() = %d, %d; want %d, %d", v, e, want, err)
	}
}

func wantAt(t *testing.T, r *bits.Reader, pos, left int) {
	t.Helper()
	if r.Pos() != pos || r.Left() != left {
		t.Fatalf("Pos, Left = %d, %d; want %d, %d", r.Pos(), r.Left(), pos, left)
	}
}

func put(t *testing.T, w *bits.Writer, n int, v uint64, err api.Errno) {
	t.Helper()
	if e := w.Put(n, v); e != err {
		t.Fatalf("Put(%d, %d) = %d; want %d", n, v, e, err)
	}
}

func wantWritten(t *testing.T, w *bits.Writer, want string) {
	t.Helper()
	if w.Len() != len(want) {
		t.Fatalf("Len = %d; want %d", w.Len(), len(want))
	}
	if w.Bits() != want {
		t.Fatalf("Bits = %q; want %q", w.Bits(), want)
	}
	padded := want + strings.Repeat("0", (8-len(want)%8)%8)
	if got := spellText(w.Bytes()); got != padded {
		t.Fatalf("Bytes = %q; want %q", got, padded)
	}
}

// outside are numbers of bits that no number has.
var outside = []int{-1, 65, -64, 66, 128, 1 << 32, math.MinInt, math.MaxInt}

func TestReadExample(t *testing.T) { // P1.1, P1.2
	r := bits.Read("\xa5\x0f")
	wantBit(t, r, 1, api.OK)
	wantU(t, r, 3, 2, api.OK)
	wantU(t, r, 0, 0, api.OK)
	wantU(t, r, 8, 80, api.OK)
	wantAt(t, r, 12, 4)
	wantU(t, r, 5, 0, api.ErrShort)
	wantU(t, r, 4, 15, api.OK)
	wantU(t, r, 0, 0, api.OK)
	wantBit(t, r, 0, api.ErrShort)
	wantAt(t, r, 16, 0)
}

func TestReadAtEveryPlace(t *testing.T) { // P1.1
	x := numbers(1)
	for _, s := range []string{x.text(17), strings.Repeat("\xff", 17), strings.Repeat("\x00", 16) + "\x01"} {
		all := spellText(s)
		for from := range len(all) + 1 {
			for n := range 65 {
				r := bits.Read(s)
				for at := 0; at < from; at += 64 {
					r.U(min(64, from-at))
				}
				if from+n > len(all) {
					wantU(t, r, n, 0, api.ErrShort)
					wantAt(t, r, from, len(all)-from)
					continue
				}
				wantU(t, r, n, number(t, all[from:from+n]), api.OK)
				wantAt(t, r, from+n, len(all)-from-n)
			}
		}
	}
}

func TestBitByBit(t *testing.T) { // P1.1
	x := numbers(2)
	s := x.text(40)
	r := bits.Read(s)
	for i, c := range spellText(s) {
		wantAt(t, r, i, 320-i)
		v, e := r.Copy().U(1)
		wantBit(t, r, uint8(c-'0'), api.OK)
		if uint8(v) != uint8(c-'0') || e != api.OK {
			t.Fatalf("U(1) at %d: %d, %d", i, v, e)
		}
	}
	wantBit(t, r, 0, api.ErrShort)
	wantAt(t, r, 320, 0)
}

func TestReadNumberOfBits(t *testing.T) { // P1.1: ErrRange comes before ErrShort
	for _, s := range []string{"", "\xa5", strings.Repeat("\xa5", 20)} {
		for _, n := range outside {
			r := bits.Read(s)
			wantU(t, r, n, 0, api.ErrRange)
			wantAt(t, r, 0, 8*len(s))
		}
	}
	r := bits.Read(strings.Repeat("\xff", 9))
	wantU(t, r, 3, 7, api.OK)
	wantU(t, r, 65, 0, api.ErrRange)
	wantU(t, r, 64, math.MaxUint64, api.OK)
	wantU(t, r, 64, 0, api.ErrShort)
	wantAt(t, r, 67, 5)
}

func TestReadNothing(t *testing.T) { // P1.1, P1.2
	r := bits.Read("")
	wantAt(t, r, 0, 0)
	wantU(t, r, 0, 0, api.OK)
	wantU(t, r, 1, 0, api.ErrShort)
	wantU(t, r, 64, 0, api.ErrShort)
	wantBit(t, r, 0, api.ErrShort)
	wantAt(t, r, 0, 0)
}

func TestCopy(t *testing.T) { // P1.2
	r := bits.Read("\x12\x34\x56")
	wantU(t, r, 5, 2, api.OK)
	c := r.Copy()
	wantAt(t, c, 5, 19)
	wantU(t, c, 7, 0x23, api.OK)
	wantAt(t, r, 5, 19)
	d := c.Copy()
	wantU(t, r, 19, 0x23456, api.OK)
	wantAt(t, c, 12, 12)
	wantU(t, c, 12, 0x456, api.OK)
	wantU(t, d, 4, 4, api.OK)
	wantAt(t, d, 16, 8)
	wantAt(t, r.Copy(), 24, 0)
	wantBit(t, r.Copy(), 0, api.ErrShort)
}

func TestReadersOfOneString(t *testing.T) { // R6
	s := "\xf0\x0f"
	a, b := bits.Read(s), bits.Read(s)
	wantU(t, a, 12, 0xf00, api.OK)
	wantU(t, b, 4, 15, api.OK)
	wantAt(t, a, 12, 4)
	wantAt(t, b, 4, 12)
}

func TestWriteExample(t *testing.T) { // P1.3, P1.4
	w := bits.Write()
	put(t, w, 1, 1, api.OK)
	put(t, w, 3, 2, api.OK)
	put(t, w, 2, 4, api.ErrArg)
	put(t, w, 2, 3, api.OK)
	wantWritten(t, w, "101011")
	if w.Bytes() != "\xac" {
		t.Fatalf("Bytes = %x", w.Bytes())
	}
}

func TestWriteNothing(t *testing.T) { // P1.3, P1.4
	w := bits.Write()
	wantWritten(t, w, "")
	put(t, w, 0, 0, api.OK)
	wantWritten(t, w, "")
	put(t, w, 3, 5, api.OK)
	put(t, w, 0, 0, api.OK)
	wantWritten(t, w, "101")
}

func TestWriteAtEveryPlace(t *testing.T) { // P1.3, P1.4
	x := numbers(3)
	for from := range 80 {
		for n := range 65 {
			for range 4 {
				w := bits.Write()
				want := ""
				for at := 0; at < from; at += 64 {
					k := min(64, from-at)
					v := x.ofBits(k)
					put(t, w, k, v, api.OK)
					want += spell(k, v)
				}
				v := x.ofBits(n)
				put(t, w, n, v, api.OK)
				wantWritten(t, w, want+spell(n, v))
				put(t, w, 3, 5, api.OK)
				wantWritten(t, w, want+spell(n, v)+"101")
			}
		}
	}
}

func TestWriteWhatDoesNotFit(t *testing.T) { // P1.3
	w := bits.Write()
	put(t, w, 5, 21, api.OK)
	for n := range 64 {
		for _, v := range []uint64{1 << n, 1<<n + 1, 1 << 63, math.MaxUint64} {
			if v>>n != 0 {
				put(t, w, n, v, api.ErrArg)
			}
		}
		wantWritten(t, w, "10101")
	}
	for n := range 65 {
		put(t, bits.Write(), n, math.MaxUint64>>(64-n), api.OK)
	}
	put(t, w, 0, 1, api.ErrArg)
	put(t, w, 2, 1, api.OK)
	wantWritten(t, w, "1010101")
}

func TestWriteNumberOfBits(t *testing.T) { // P1.3: ErrRange comes before ErrArg
	w := bits.Write()
	put(t, w, 4, 9, api.OK)
	for _, n := range outside {
		for _, v := range []uint64{0, 1, math.MaxUint64} {
			put(t, w, n, v, api.ErrRange)
			wantWritten(t, w, "1001")
		}
	}
	put(t, w, 64, math.MaxUint64, api.OK)
	wantWritten(t, w, "1001"+strings.Repeat("1", 64))
}

func TestResultsStay(t *testing.T) { // P1.4, R3
	w := bits.Write()
	put(t, w, 12, 0xabc, api.OK)
	b, s := w.Bytes(), w.Bits()
	for range 100 {
		put(t, w, 7, 127, api.OK)
	}
	if b != "\xab\xc0" || s != "101010111100" {
		t.Fatalf("%x, %s", b, s)
	}
	wantWritten(t, w, s+strings.Repeat("1", 700))
}

func TestLookingWritesNothing(t *testing.T) { // P1.4, R6
	a, b := bits.Write(), bits.Write()
	x := numbers(4)
	for range 200 {
		n := x.below(65)
		v := x.ofBits(n)
		put(t, a, n, v, api.OK)
		put(t, b, n, v, api.OK)
		a.Len()
		a.Bits()
		a.Bytes()
	}
	if a.Bytes() != b.Bytes() || a.Bits() != b.Bits() || a.Len() != b.Len() {
		t.Fatal("a writer that was looked at has other bits")
	}
}

func TestRoundTrip(t *testing.T) { // P1.5
	x := numbers(5)
	for range 300 {
		w := bits.Write()
		var ns []int
		var vs []uint64
		for range x.below(60) {
			n := x.below(65)
			ns, vs = append(ns, n), append(vs, x.ofBits(n))
			put(t, w, n, vs[len(vs)-1], api.OK)
		}
		r := bits.Read(w.Bytes())
		for i, n := range ns {
			wantU(t, r, n, vs[i], api.OK)
		}
		if r.Pos() != w.Len() || r.Left() > 7 {
			t.Fatalf("Pos, Len, Left = %d, %d, %d", r.Pos(), w.Len(), r.Left())
		}
		for left := r.Left(); left > 0; left-- {
			wantBit(t, r, 0, api.OK)
		}
	}
}

func TestDivided(t *testing.T) { // P1.6
	x := numbers(6)
	for lead := range 9 {
		for n := range 65 {
			for k := range n + 1 {
				v := x.ofBits(n)
				first, rest := v>>(n-k), v&(math.MaxUint64>>(64-(n-k)))
				a, b := bits.Write(), bits.Write()
				put(t, a, lead, 0, api.OK)
				put(t, b, lead, 0, api.OK)
				put(t, a, n, v, api.OK)
				put(t, b, k, first, api.OK)
				put(t, b, n-k, rest, api.OK)
				if a.Bits() != b.Bits() || a.Bytes() != b.Bytes() || a.Len() != b.Len() {
					t.Fatalf("%s, %s", a.Bits(), b.Bits())
				}
				r := bits.Read(a.Bytes())
				wantU(t, r, lead, 0, api.OK)
				c := r.Copy()
				wantU(t, r, n, v, api.OK)
				wantU(t, c, k, first, api.OK)
				wantU(t, c, n-k, rest, api.OK)
			}
		}
	}
}

func TestPosAndLeft(t *testing.T) { // P1.7
	x := numbers(7)
	for range 200 {
		s := x.text(x.below(40))
		r := bits.Read(s)
		for range 30 {
			if r.Pos()+r.Left() != 8*len(s) || r.Pos() < 0 || r.Left() < 0 {
				t.Fatalf("Pos, Left = %d, %d of %d bytes", r.Pos(), r.Left(), len(s))
			}
			at, n := r.Pos(), x.below(75)-5
			if _, e := r.U(n); e == api.OK {
				at += n
			}
			wantAt(t, r, at, 8*len(s)-at)
			if _, e := r.Bit(); e == api.OK {
				at++
			}
			wantAt(t, r, at, 8*len(s)-at)
			if x.below(3) == 0 {
				r = r.Copy()
			}
		}
	}
}

func TestErrorsMakeNoDifference(t *testing.T) { // P1.8
	x := numbers(8)
	for range 200 {
		s := x.text(x.below(30))
		plain, other := bits.Read(s), bits.Read(s)
		for plain.Left() > 0 {
			for _, n := range outside {
				wantU(t, other, n, 0, api.ErrRange)
			}
			if other.Left() < 64 {
				wantU(t, other, other.Left()+1, 0, api.ErrShort)
				wantU(t, other, 64, 0, api.ErrShort)
			}
			n := x.below(min(64, plain.Left()) + 1)
			v, _ := plain.U(n)
			wantU(t, other, n, v, api.OK)
		}
		wantBit(t, other, 0, api.ErrShort)
		wantU(t, other, 0, 0, api.OK)
		wantAt(t, other, 8*len(s), 0)
	}
}

func TestNilReader(t *testing.T) { // P1.1, P1.2, R5
	var r *bits.Reader
	for _, n := range append([]int{0, 1, 64}, outside...) {
		wantU(t, r, n, 0, api.ErrNil)
	}
	wantBit(t, r, 0, api.ErrNil)
	wantAt(t, r, 0, 0)
	if r.Copy() != nil {
		t.Fatal("a copy of nil")
	}
}

func TestNilWriter(t *testing.T) { // P1.3, P1.4, R5
	var w *bits.Writer
	for _, n := range append([]int{0, 1, 64}, outside...) {
		put(t, w, n, 0, api.ErrNil)
		put(t, w, n, math.MaxUint64, api.ErrNil)
	}
	wantWritten(t, w, "")
}

func TestLong(t *testing.T) { // P1.3, P1.4, P1.5
	w := bits.Write()
	for i := range 1 << 20 {
		w.Put(11, uint64(i)&2047)
	}
	if w.Len() != 11<<20 || len(w.Bytes()) != 11<<17 {
		t.Fatalf("Len = %d", w.Len())
	}
	r := bits.Read(w.Bytes())
	for i := range 1 << 20 {
		if v, e := r.U(11); v != uint64(i)&2047 || e != api.OK {
			t.Fatalf("number %d: %d, %d", i, v, e)
		}
	}
}
