package rbsp_test

import (
	"strconv"
	"strings"
	"testing"

	"spindle/api"
	"spindle/bits"
	"spindle/rbsp"
)

// numbers yields the same numbers in every run.
type numbers uint64

func (x *numbers) below(n int) int {
	*x ^= *x << 13
	*x ^= *x >> 7
	*x ^= *x << 17
	return int(uint64(*x) % uint64(n))
}

// bits returns up to n characters 0 and 1; often all of them are equal.
func (x *numbers) bits(n int) string {
	n = x.below(n + 1)
	if k := x.below(4); k < 2 {
		return strings.Repeat(strconv.Itoa(k), n)
	}
	s := ""
	for range n {
		s += strconv.Itoa(x.below(2))
	}
	return s
}

func zeros(n int) string { return strings.Repeat("0", n) }

// spell returns the bits of bytes as characters.
func spell(s string) string {
	var out strings.Builder
	for i := range len(s) {
		b := strconv.FormatUint(uint64(s[i]), 2)
		out.WriteString(zeros(8-len(b)) + b)
	}
	return out.String()
}

// pack returns the bytes of characters, whose number is a multiple of 8.
func pack(t *testing.T, text string) string {
	t.Helper()
	b := make([]byte, len(text)/8)
	for i := range b {
		v, err := strconv.ParseUint(text[8*i:8*i+8], 2, 8)
		if err != nil {
			t.Fatal(err)
		}
		b[i] = byte(v)
	}
	return string(b)
}

// texts returns all strings of at most n bytes of an alphabet, the shorter ones first.
func texts(letters string, n int) []string {
	all := []string{""}
	last := all
	for range n {
		var next []string
		for _, s := range last {
			for i := range len(letters) {
				next = append(next, s+letters[i:i+1])
			}
		}
		all = append(all, next...)
		last = next
	}
	return all
}

func everyByte() string {
	b := make([]byte, 256)
	for i := range b {
		b[i] = byte(i)
	}
	return string(b)
}

// at returns a reader of which some bits were read.
func at(t *testing.T, s string, pos int) *bits.Reader {
	t.Helper()
	r := bits.Read(s)
	for r.Pos() < pos {
		if _, e := r.U(min(64, pos-r.Pos())); e != api.OK {
			t.Fatalf("%d of %d bits: %d", pos, 8*len(s), e)
		}
	}
	return r
}

// trailing is the chapter's definition of the trailing bits after n bits, spelt apart from the package.
func trailing(n int) string {
	s := "1"
	for (n+len(s))%8 != 0 {
		s += "0"
	}
	return s
}

// more is the chapter's definition of More, for the bits that are left.
func more(left string) (bool, api.Errno) {
	switch strings.LastIndex(left, "1") {
	case -1:
		return false, api.ErrShort
	case 0:
		return false, api.OK
	}
	return true, api.OK
}

// end is the chapter's definition of what End returns, for the bits that are left after some.
func end(pos int, left string, words bool) api.Errno {
	if left == "" {
		return api.ErrShort
	}
	after, found := strings.CutPrefix(left, trailing(pos))
	switch {
	case !found:
		return api.ErrForm
	case after == "":
		return api.OK
	case !words || len(after)%16 != 0 || strings.Trim(after, "0") != "":
		return api.ErrForm
	}
	return api.OK
}

func wantMore(t *testing.T, s string, pos int, want bool, err api.Errno) {
	t.Helper()
	r := at(t, s, pos)
	got, e := rbsp.More(r)
	if got != want || e != err {
		t.Fatalf("More at %d of %s = %v, %d; want %v, %d", pos, short(s), got, e, want, err)
	}
	wantAt(t, r, s, pos)
}

func wantEnd(t *testing.T, s string, pos int, words bool, err api.Errno) {
	t.Helper()
	r := at(t, s, pos)
	if e := rbsp.End(r, words); e != err {
		t.Fatalf("End(%v) at %d of %s = %d; want %d", words, pos, short(s), e, err)
	}
	if err == api.OK {
		pos = 8 * len(s)
	}
	wantAt(t, r, s, pos)
}

// wantAt checks where a reader is, also by the bit that it reads next.
func wantAt(t *testing.T, r *bits.Reader, s string, pos int) {
	t.Helper()
	if r.Pos() != pos || r.Left() != 8*len(s)-pos {
		t.Fatalf("the reader of %s is at %d, with %d left; want %d", short(s), r.Pos(), r.Left(), pos)
	}
	b, e := r.Bit()
	if pos == 8*len(s) {
		if b != 0 || e != api.ErrShort {
			t.Fatalf("after the end of %s: %d, %d", short(s), b, e)
		}
	} else if want := s[pos/8] >> (7 - pos%8) & 1; b != want || e != api.OK {
		t.Fatalf("at %d of %s: %d, %d; want %d", pos, short(s), b, e, want)
	}
}

// short returns the first and the last bits of a string.
func short(s string) string {
	if len(s) <= 12 {
		return "[" + spell(s) + "]"
	}
	return "[" + spell(s[:6]) + " .. " + spell(s[len(s)-6:]) + ", " + strconv.Itoa(len(s)) + " bytes]"
}

// wantAll compares More and End with their definitions, after every number of bits.
func wantAll(t *testing.T, s string) {
	t.Helper()
	text := spell(s)
	for pos := range len(text) + 1 {
		wantPlace(t, s, pos, text[pos:])
	}
}

func wantPlace(t *testing.T, s string, pos int, left string) {
	t.Helper()
	m, e := more(left)
	wantMore(t, s, pos, m, e)
	wantEnd(t, s, pos, false, end(pos, left, false))
	wantEnd(t, s, pos, true, end(pos, left, true))
}

// written returns a writer with the bits of characters.
func written(t *testing.T, text string) *bits.Writer {
	t.Helper()
	w := bits.Write()
	for i := range len(text) {
		if e := w.Put(1, uint64(text[i]-'0')); e != api.OK {
			t.Fatalf("Put of %q: %d", text[i], e)
		}
	}
	return w
}

func trail(t *testing.T, w *bits.Writer) {
	t.Helper()
	if e := rbsp.Trail(w); e != api.OK {
		t.Fatalf("Trail after %q: %d", w.Bits(), e)
	}
}

func TestTrailExamples(t *testing.T) { // P5.1
	for _, x := range []struct{ before, bytes string }{{"101", "\xb0"}, {"", "\x80"}, {"1010", "\xa8"}, {"1111111", "\xff"}, {"00000000", "\x00\x80"}} {
		w := written(t, x.before)
		trail(t, w)
		if w.Bytes() != x.bytes {
			t.Errorf("Trail after %q: %s; want %s", x.before, short(w.Bytes()), short(x.bytes))
		}
	}
}

func TestTrail(t *testing.T) { // P5.1, P5.4
	x := numbers(1)
	for n := range 300 {
		for _, before := range []string{zeros(n), strings.Repeat("1", n), x.bits(n)} {
			w := written(t, before)
			trail(t, w)
			if want := before + trailing(len(before)); w.Bits() != want {
				t.Fatalf("Trail after %q: %q; want %q", before, w.Bits(), want)
			}
			if more := w.Len() - len(before); more < 1 || more > 8 {
				t.Fatalf("Trail after %q writes %d bits", before, more)
			}
			s := w.Bytes()
			if w.Len()%8 != 0 || s[len(s)-1] == 0 {
				t.Fatalf("Trail after %q: %s", before, short(s))
			}
		}
	}
}

func TestTrailTwice(t *testing.T) { // P5.1: after whole bytes the trailing bits are a whole byte
	w := written(t, "01")
	for _, want := range []string{"\x60", "\x60\x80", "\x60\x80\x80"} {
		trail(t, w)
		if w.Bytes() != want {
			t.Fatalf("Trail: %s; want %s", short(w.Bytes()), short(want))
		}
	}
	w.Put(1, 1)
	trail(t, w)
	if w.Bytes() != "\x60\x80\x80\xc0" {
		t.Fatalf("Trail after another bit: %s", short(w.Bytes()))
	}
}

func TestNil(t *testing.T) { // P5.1, P5.2, P5.3
	if e := rbsp.Trail(nil); e != api.ErrNil {
		t.Errorf("Trail(nil) = %d", e)
	}
	if m, e := rbsp.More(nil); m || e != api.ErrNil {
		t.Errorf("More(nil) = %v, %d", m, e)
	}
	for _, words := range []bool{false, true} {
		if e := rbsp.End(nil, words); e != api.ErrNil {
			t.Errorf("End(nil, %v) = %d", words, e)
		}
	}
}

func TestEndExamples(t *testing.T) { // P5.2, P5.3
	for _, x := range []struct {
		s               string
		pos             int
		more            bool
		e, plain, words api.Errno
	}{
		{"\xb8", 4, false, api.OK, api.OK, api.OK},
		{"\xb8", 0, true, api.OK, api.ErrForm, api.ErrForm},
		{"\xb8", 2, true, api.OK, api.ErrForm, api.ErrForm},
		{"\xb8", 3, true, api.OK, api.ErrForm, api.ErrForm},
		{"\xb8\x00\x00", 4, false, api.OK, api.ErrForm, api.OK},
		{"\xb8\x00", 4, false, api.OK, api.ErrForm, api.ErrForm},
		{"\x80", 0, false, api.OK, api.OK, api.OK},
		{"\x00\x80", 0, true, api.OK, api.ErrForm, api.ErrForm},
		{"\x80", 8, false, api.ErrShort, api.ErrShort, api.ErrShort},
		{"\x00", 0, false, api.ErrShort, api.ErrForm, api.ErrForm},
		{"", 0, false, api.ErrShort, api.ErrShort, api.ErrShort},
	} {
		wantMore(t, x.s, x.pos, x.more, x.e)
		wantEnd(t, x.s, x.pos, false, x.plain)
		wantEnd(t, x.s, x.pos, true, x.words)
	}
}

func TestEveryTwoBytes(t *testing.T) { // P5.2, P5.3: the definitions, at every place
	for _, s := range texts(everyByte(), 2) {
		wantAll(t, s)
	}
}

func TestEveryText(t *testing.T) { // P5.2, P5.3: zero words, and what may stand before, in and after them
	for _, s := range texts("\x00\x80\xb8\x01", 5) {
		wantAll(t, s)
	}
	for _, s := range texts("\x00\x10", 9) {
		wantAll(t, s)
	}
}

func TestOneBitInManyZeros(t *testing.T) { // P5.2, P5.3: wherever the bits 1 are
	for n := range 14 {
		wantAll(t, strings.Repeat("\x00", n))
		for i := range n {
			for k := range 8 {
				b := make([]byte, n)
				b[i] = 1 << k
				wantAll(t, string(b))
				b[0] |= 0x80
				wantAll(t, string(b))
			}
		}
	}
}

func TestManyZeroWords(t *testing.T) { // P5.2, P5.3: as many as a stream has, an odd byte, and a bit 1 among them
	many := strings.Repeat("\x00", api.MaxStream-1)
	for _, x := range []struct {
		s           string
		more        bool
		plain, word api.Errno
	}{
		{"\xb8" + many, false, api.ErrForm, api.ErrForm},
		{"\xb8" + many[1:], false, api.ErrForm, api.OK},
		{"\xb8" + many[2:], false, api.ErrForm, api.ErrForm},
		{"\xb8" + many[2:] + "\x01", true, api.ErrForm, api.ErrForm},
		{"\xb8" + many[4:] + "\x80\x00", true, api.ErrForm, api.ErrForm},
		{"\xb8" + many[1<<20+2:] + "\x10" + many[:1<<20] + "\x00", true, api.ErrForm, api.ErrForm},
	} {
		wantMore(t, x.s, 4, x.more, api.OK)
		wantEnd(t, x.s, 4, false, x.plain)
		wantEnd(t, x.s, 4, true, x.word)
	}
	wantMore(t, many, 0, false, api.ErrShort)
	wantEnd(t, many, 0, true, api.ErrForm)
	wantEnd(t, many, 8, false, api.ErrForm)
}

func TestManyBitsAhead(t *testing.T) { // P5.2, P5.3: after any number of bits of a long payload
	x := numbers(2)
	for range 300 {
		text := x.bits(1500)
		text += trailing(len(text)) + strings.Repeat(zeros(8), x.below(6))
		s := pack(t, text)
		for range 20 {
			pos := x.below(len(text) + 1)
			wantPlace(t, s, pos, text[pos:])
		}
	}
}

func TestEndOfTrail(t *testing.T) { // P5.5
	x := numbers(3)
	for range 3000 {
		before := x.bits(200)
		w := written(t, before)
		trail(t, w)
		for _, words := range []bool{false, true} {
			wantMore(t, w.Bytes(), len(before), false, api.OK)
			wantEnd(t, w.Bytes(), len(before), words, api.OK)
		}
		for range x.below(5) {
			w.Put(16, 0)
			wantMore(t, w.Bytes(), len(before), false, api.OK)
			wantEnd(t, w.Bytes(), len(before), false, api.ErrForm)
			wantEnd(t, w.Bytes(), len(before), true, api.OK)
		}
	}
}

func TestMoreAndEnd(t *testing.T) { // P5.6
	x := numbers(4)
	ended, goOn := 0, 0
	for range 20000 {
		text := x.bits(60)
		text += strings.Repeat("0", (8-len(text)%8)%8)
		r := at(t, pack(t, text), x.below(len(text)+1))
		m, _ := rbsp.More(r)
		for _, words := range []bool{false, true} {
			switch e := rbsp.End(r.Copy(), words); {
			case e == api.OK && m:
				t.Fatalf("at %d of %q there is more, and End(%v) succeeds", r.Pos(), text, words)
			case m && e != api.ErrForm:
				t.Fatalf("at %d of %q there is more, and End(%v) = %d", r.Pos(), text, words, e)
			case m:
				goOn++
			case e == api.OK:
				ended++
			}
		}
	}
	if ended < 100 || goOn < 1000 {
		t.Fatalf("%d ends, %d times more", ended, goOn)
	}
}

func TestOneStringEnds(t *testing.T) { // P5.7
	found := map[string]string{}
	for _, s := range texts(everyByte(), 2) {
		text := spell(s)
		for pos := range len(text) + 1 {
			if e := rbsp.End(at(t, s, pos), false); e != api.OK {
				continue
			}
			if other, ok := found[text[:pos]]; ok {
				t.Fatalf("after %q both %q and %q end", text[:pos], other, text)
			}
			found[text[:pos]] = text
		}
	}
	// Every string of at most 15 bits has its end in two bytes.
	if len(found) != 1<<16-1 {
		t.Fatalf("%d strings of bits have an end", len(found))
	}
}

func TestReadersAreIndependent(t *testing.T) { // P5.2, P5.3, R6: only the reader that End was given moves
	r := bits.Read("\xb8\x00\x00")
	r.U(4)
	c := r.Copy()
	for range 3 {
		if m, e := rbsp.More(r); m || e != api.OK {
			t.Fatalf("More = %v, %d", m, e)
		}
		if e := rbsp.End(r, false); e != api.ErrForm || r.Pos() != 4 {
			t.Fatalf("End = %d, at %d", e, r.Pos())
		}
	}
	if e := rbsp.End(r, true); e != api.OK || r.Left() != 0 || c.Pos() != 4 {
		t.Fatalf("End = %d, at %d, the copy at %d", e, r.Pos(), c.Pos())
	}
	if e := rbsp.End(r, true); e != api.ErrShort || r.Pos() != 24 {
		t.Fatalf("End after the end = %d, at %d", e, r.Pos())
	}
	if _, e := rbsp.More(r); e != api.ErrShort {
		t.Fatalf("More after the end = %d", e)
	}
	if e := rbsp.End(c, true); e != api.OK {
		t.Fatalf("End of the copy = %d", e)
	}
}
