package marks_test

import (
	"math"
	"slices"
	"strconv"
	"strings"
	"testing"

	"spindle/api"
	"spindle/bits"
	"spindle/marks"
)

// numbers yields the same numbers in every run.
type numbers uint64

func (x *numbers) below(n int) int {
	*x ^= *x << 13
	*x ^= *x >> 7
	*x ^= *x << 17
	return int(uint64(*x) % uint64(n))
}

const most = 1<<32 - 2

// The lists are described here as the chapter says them, apart from the package.

// list is a kind of lists: its functions, and how many numbers the commands have.
type list struct {
	name    string
	check   func(...api.Mod) api.Errno
	read    func(*bits.Reader) ([]api.Mod, api.Errno)
	put     func(*bits.Writer, ...api.Mod) api.Errno
	end     int
	numbers map[int]int
}

func lists() []list {
	return []list{
		{"Mods", marks.CheckMods, marks.Mods, marks.PutMods, 3, map[int]int{0: 1, 1: 1, 2: 1}},
		{"Marks", marks.CheckMarks, marks.Marks, marks.PutMarks, 0, map[int]int{1: 1, 2: 1, 3: 2, 4: 1, 5: 0, 6: 1}},
	}
}

// ops returns the Ops of the commands, the least one first.
func (k list) ops() []int {
	var l []int
	for op := range k.numbers {
		l = append(l, op)
	}
	slices.Sort(l)
	return l
}

// command returns a valid command; its numbers are often the least or the greatest ones.
func (k list) command(x *numbers) api.Mod {
	op := k.ops()[x.below(len(k.numbers))]
	m := api.Mod{Op: uint8(op)}
	if k.numbers[op] > 0 {
		m.A = x.number()
	}
	if k.numbers[op] > 1 {
		m.B = x.number()
	}
	return m
}

func (x *numbers) number() int {
	switch x.below(5) {
	case 0:
		return 0
	case 1:
		return most - x.below(3)
	case 2:
		return x.below(most + 1)
	}
	return x.below(20)
}

// commands returns a valid list of n commands.
func (k list) commands(x *numbers, n int) []api.Mod {
	var l []api.Mod
	for range n {
		l = append(l, k.command(x))
	}
	return l
}

// valid is the chapter's definition of what the checks return.
func (k list) valid(l []api.Mod) api.Errno {
	if len(l) > 66 {
		return api.ErrLong
	}
	for _, m := range l {
		n, ok := k.numbers[int(m.Op)]
		switch {
		case !ok:
			return api.ErrKind
		case n < 1 && m.A != 0 || n < 2 && m.B != 0:
			return api.ErrArg
		case m.A < 0 || m.A > most || m.B < 0 || m.B > most:
			return api.ErrRange
		}
	}
	return api.OK
}

func zeros(n int) string { return strings.Repeat("0", n) }

func ue(v int) string {
	s := strconv.FormatInt(int64(v)+1, 2)
	return zeros(len(s)-1) + s
}

// begin returns the bits of commands, without the end.
func (k list) begin(l []api.Mod) string {
	var text strings.Builder
	for _, m := range l {
		text.WriteString(ue(int(m.Op)))
		for _, v := range []int{m.A, m.B}[:k.numbers[int(m.Op)]] {
			text.WriteString(ue(v))
		}
	}
	return text.String()
}

// bits returns the bits of a list.
func (k list) bits(l []api.Mod) string { return k.begin(l) + ue(k.end) }

// next returns the number at the beginning of bits, and the bits after it.
func next(text string) (int, string, api.Errno) {
	if strings.HasPrefix(text, zeros(32)) {
		return 0, "", api.ErrForm
	}
	n := strings.IndexByte(text, '1')
	if n < 0 || len(text) < 2*n+1 {
		return 0, "", api.ErrShort
	}
	v, _ := strconv.ParseUint(text[:2*n+1], 2, 64)
	return int(v) - 1, text[2*n+1:], api.OK
}

// decode is the chapter's definition of reading: the commands, and how many bits they have.
func (k list) decode(text string) ([]api.Mod, int, api.Errno) {
	var l []api.Mod
	left := text
	for {
		op, after, e := next(left)
		if e != api.OK {
			return nil, 0, e
		}
		left = after
		if op == k.end {
			return l, len(text) - len(left), api.OK
		}
		n, ok := k.numbers[op]
		if !ok {
			return nil, 0, api.ErrKind
		}
		if len(l) == 66 {
			return nil, 0, api.ErrLong
		}
		v := make([]int, 2)
		for i := range n {
			v[i], after, e = next(left)
			if e != api.OK {
				return nil, 0, e
			}
			left = after
		}
		l = append(l, api.Mod{Op: uint8(op), A: v[0], B: v[1]})
	}
}

// padded returns bits as whole bytes, with zeros after them.
func padded(text string) string {
	text += zeros((8 - len(text)%8) % 8)
	b := make([]byte, len(text)/8)
	for i := range b {
		v, _ := strconv.ParseUint(text[8*i:8*i+8], 2, 8)
		b[i] = byte(v)
	}
	return string(b)
}

// reader returns a reader of which exactly these bits are left, and where it is.
func reader(text string) (*bits.Reader, int) {
	before := (8 - len(text)%8) % 8
	r := bits.Read(padded(strings.Repeat("1", before) + text))
	r.U(before)
	return r, before
}

// wantRead compares reading with its definition, and returns the error.
func (k list) wantRead(t *testing.T, text string) api.Errno {
	t.Helper()
	want, n, err := k.decode(text)
	r, at := reader(text)
	l, e := k.read(r)
	if !slices.Equal(l, want) || e != err || r.Pos() != at+n {
		t.Fatalf("%s of %s: %v, error %d, at %d; want %v, %d, %d", k.name, text, l, e, r.Pos()-at, want, err, n)
	}
	return e
}

// wantError checks an error of reading.
func (k list) wantError(t *testing.T, text string, err api.Errno) {
	t.Helper()
	if e := k.wantRead(t, text); e != err {
		t.Fatalf("%s of %s: error %d; want %d", k.name, text, e, err)
	}
}

// wantList checks reading and writing of a valid list, before which and after which there are bits.
func (k list) wantList(t *testing.T, l []api.Mod, after string) {
	t.Helper()
	text := k.bits(l)
	w := bits.Write()
	w.Put(3, 5)
	given := slices.Clone(l)
	if e := k.put(w, given...); e != api.OK || w.Bits() != "101"+text || !slices.Equal(given, l) {
		t.Fatalf("Put%s(%v): error %d, bits %s; want %s", k.name, l, e, w.Bits(), text)
	}
	r, at := reader(text + after)
	got, e := k.read(r)
	if !slices.Equal(got, l) || e != api.OK || r.Pos() != at+len(text) {
		t.Fatalf("%s of %s and %s: %v, error %d, at %d; want %v", k.name, text, after, got, e, r.Pos()-at, l)
	}
}

// wantCheck compares the check with its definition, and writing with the check.
func (k list) wantCheck(t *testing.T, l []api.Mod) api.Errno {
	t.Helper()
	err := k.valid(l)
	if e := k.check(l...); e != err {
		t.Fatalf("Check%s(%v) = %d; want %d", k.name, l, e, err)
	}
	w := bits.Write()
	w.Put(3, 5)
	want := "101"
	if err == api.OK {
		want += k.bits(l)
	}
	if e := k.put(w, l...); e != err || w.Bits() != want {
		t.Fatalf("Put%s(%v) = %d, bits %s; want %d, %s", k.name, l, e, w.Bits(), err, want)
	}
	return err
}

func TestExamples(t *testing.T) { // P9.1, P9.2, P9.3
	for _, c := range []struct {
		kind int
		l    []api.Mod
		want string
	}{
		{0, nil, "00100"},
		{1, nil, "1"},
		{0, []api.Mod{{Op: 0, A: 5}, {Op: 2, A: 0}}, "1" + "00110" + "011" + "1" + "00100"},
		{1, []api.Mod{{Op: 3, A: 1, B: 0}, {Op: 5}}, "00100" + "010" + "1" + "00110" + "1"},
	} {
		k := lists()[c.kind]
		w := bits.Write()
		if e := k.put(w, c.l...); e != api.OK || w.Bits() != c.want {
			t.Errorf("Put%s(%v): error %d, bits %s; want %s", k.name, c.l, e, w.Bits(), c.want)
		}
		r := bits.Read(w.Bytes())
		if l, e := k.read(r); !slices.Equal(l, c.l) || e != api.OK || r.Pos() != len(c.want) {
			t.Errorf("%s of %s: %v, error %d, at %d", k.name, c.want, l, e, r.Pos())
		}
	}
	for i, c := range []struct{ got, want api.Errno }{
		{marks.CheckMods(api.Mod{Op: 3}), api.ErrKind},
		{marks.CheckMods(api.Mod{B: 1}), api.ErrArg},
		{marks.CheckMods(api.Mod{Op: 1, A: -1}), api.ErrRange},
		{marks.CheckMarks(api.Mod{}), api.ErrKind},
		{marks.CheckMarks(api.Mod{Op: 5, A: 1}), api.ErrArg},
	} {
		if c.got != c.want {
			t.Errorf("check %d: error %d; want %d", i, c.got, c.want)
		}
	}
	lists()[0].wantError(t, "00101", api.ErrKind)
	lists()[0].wantError(t, "011", api.ErrShort)
}

func TestNil(t *testing.T) { // P9.2, P9.3, R5: before the commands are looked at
	for _, k := range lists() {
		if l, e := k.read(nil); e != api.ErrNil || len(l) != 0 {
			t.Errorf("%s(nil) = %v, %d", k.name, l, e)
		}
		for _, l := range [][]api.Mod{nil, {{Op: 1}}, {{Op: 9}}, {{Op: 1, B: 1}}, {{Op: 1, A: -1}}, make([]api.Mod, 67)} {
			if e := k.put(nil, l...); e != api.ErrNil {
				t.Errorf("Put%s(nil, %v) = %d", k.name, l, e)
			}
		}
		if l, e := k.read(&bits.Reader{}); e != api.ErrShort || len(l) != 0 {
			t.Errorf("%s of no bits: %v, %d", k.name, l, e)
		}
	}
}

func TestCheckCommand(t *testing.T) { // P9.1, P9.3: each Op, with numbers at their limits and beyond
	vs := []int{math.MinInt, -1 << 32, -2, -1, 0, 1, 2, 255, 256, 1<<31 - 1, 1 << 31, most - 1, most, most + 1, 1 << 32, 1<<32 + 1, math.MaxInt}
	for _, k := range lists() {
		for op := range 256 {
			for _, a := range vs {
				for _, b := range vs {
					k.wantCheck(t, []api.Mod{{Op: uint8(op), A: a, B: b}})
				}
			}
		}
	}
}

func TestCheckOrder(t *testing.T) { // P9.1, R2: the first command that is wrong decides, whatever comes after it
	x := numbers(1)
	for _, k := range lists() {
		seen := map[api.Errno]int{}
		for range 30000 {
			l := k.commands(&x, 1+x.below(5))
			for range x.below(3) {
				m := &l[x.below(len(l))]
				switch x.below(3) {
				case 0:
					m.Op = uint8(x.below(9))
				case 1:
					m.A = []int{-1, most + 1, 1}[x.below(3)]
				case 2:
					m.B = []int{-1, most + 1, 1}[x.below(3)]
				}
			}
			seen[k.wantCheck(t, l)]++
		}
		for _, e := range []api.Errno{api.OK, api.ErrKind, api.ErrArg, api.ErrRange} {
			if seen[e] < 1000 {
				t.Errorf("Check%s: error %d is returned %d times", k.name, e, seen[e])
			}
		}
	}
}

func TestCheckLength(t *testing.T) { // P9.1, P9.3: ErrLong is returned whatever the commands are
	x := numbers(2)
	for _, k := range lists() {
		for n := 60; n <= 140; n++ {
			l := k.commands(&x, n)
			err := api.OK
			if n > 66 {
				err = api.ErrLong
			}
			if e := k.wantCheck(t, l); e != err {
				t.Errorf("Check%s of %d commands: error %d", k.name, n, e)
			}
			l[x.below(n)] = api.Mod{Op: 100, B: -1}
			k.wantCheck(t, l)
		}
	}
}

func TestLists(t *testing.T) { // P9.2, P9.3, P9.4, R3: every length, whatever comes after the list
	x := numbers(3)
	for _, k := range lists() {
		for n := range 67 {
			for range 30 {
				l := k.commands(&x, n)
				k.wantList(t, l, "")
				k.wantList(t, l, zeros(40))
				k.wantList(t, l, strings.Repeat("1", 1+x.below(9)))
				k.wantList(t, l, k.bits(k.commands(&x, 2)))
			}
		}
	}
}

func TestEachCommand(t *testing.T) { // P9.2, P9.3: each Op alone, with each number near the limits and powers of two
	var vs []int
	for v := range 70 {
		vs = append(vs, v)
	}
	for k := 7; k <= 32; k++ {
		for v := 1<<k - 3; v <= min(most, 1<<k+1); v++ {
			vs = append(vs, v)
		}
	}
	for _, k := range lists() {
		for _, op := range k.ops() {
			switch k.numbers[op] {
			case 0:
				k.wantList(t, []api.Mod{{Op: uint8(op)}}, "0")
			case 1:
				for _, v := range vs {
					k.wantList(t, []api.Mod{{Op: uint8(op), A: v}}, "0")
				}
			case 2:
				for _, a := range vs {
					for _, b := range vs {
						k.wantList(t, []api.Mod{{Op: uint8(op), A: a, B: b}}, "0")
					}
				}
			}
		}
	}
}

func TestReadOps(t *testing.T) { // P9.2: an Op of no command, though its lowest byte may be that of one
	x := numbers(4)
	for _, k := range lists() {
		for range 300 {
			before := k.begin(k.commands(&x, x.below(4)))
			for _, v := range []int{x.below(256), 254, 255, 256, 257, 258, 259, 260, 261, 262, 512, 1 << 16, 1<<16 + 3, 1 << 31, 1<<31 + 1, most - 3, most} {
				if _, ok := k.numbers[v]; ok || v == k.end {
					continue
				}
				k.wantError(t, before+ue(v), api.ErrKind)
				k.wantError(t, before+ue(v)+k.bits(nil), api.ErrKind)
			}
			for v := range 12 {
				k.wantRead(t, before+ue(v)+k.bits(nil))
				k.wantRead(t, before+ue(v)+"1"+k.bits(nil))
				k.wantRead(t, before+ue(v)+"11"+k.bits(nil))
			}
		}
	}
}

func TestReadLong(t *testing.T) { // P9.2: at the Op after MaxMods commands, whether or not its numbers are there
	x := numbers(5)
	for _, k := range lists() {
		for range 50 {
			whole := k.begin(k.commands(&x, 66))
			k.wantError(t, whole+ue(k.end), api.OK)
			k.wantError(t, whole, api.ErrShort)
			k.wantError(t, whole+zeros(32), api.ErrForm)
			k.wantError(t, whole+ue(7), api.ErrKind)
			for _, op := range k.ops() {
				k.wantError(t, whole+ue(op), api.ErrLong)
				k.wantError(t, whole+ue(op)+zeros(32), api.ErrLong)
				k.wantError(t, whole+ue(op)+"11"+ue(k.end), api.ErrLong)
			}
			k.wantError(t, k.begin(k.commands(&x, 65))+k.bits(k.commands(&x, 1)), api.OK)
			k.wantError(t, k.begin(k.commands(&x, 200)), api.ErrLong)
		}
	}
}

func TestReadEnds(t *testing.T) { // P9.2, R5: the bits end, or a code is too long, after each number; the reader stays
	x := numbers(6)
	for _, k := range lists() {
		for range 100 {
			text := k.bits(k.commands(&x, 1+x.below(5)))
			for n := range len(text) {
				k.wantError(t, text[:n], api.ErrShort)
			}
			for left := text; left != ""; {
				_, after, _ := next(left)
				k.wantError(t, text[:len(text)-len(left)]+zeros(32), api.ErrForm)
				left = after
			}
		}
	}
}

func TestAnyBits(t *testing.T) { // P9.2, P9.4, P9.6: any bits, and lists in which bits are changed
	x := numbers(7)
	for _, k := range lists() {
		seen := map[api.Errno]int{}
		for i := range 60000 {
			b := []byte(k.bits(k.commands(&x, x.below(6))))
			if i%2 == 0 {
				b = []byte(strings.Repeat("0", x.below(60)))
				for j := range b {
					b[j] = '0' + byte(x.below(2))
				}
			}
			for range x.below(4) {
				if len(b) > 0 {
					b[x.below(len(b))] ^= 1
				}
			}
			text := string(b)
			e := k.wantRead(t, text)
			seen[e]++
			if e != api.OK {
				continue
			}
			r, at := reader(text)
			l, _ := k.read(r)
			w := bits.Write()
			if k.check(l...) != api.OK || k.put(w, l...) != api.OK || w.Bits() != text[:r.Pos()-at] {
				t.Fatalf("%s of %s: %v, whose bits are %s", k.name, text, l, w.Bits())
			}
		}
		for _, e := range []api.Errno{api.OK, api.ErrKind, api.ErrShort} {
			if seen[e] < 1000 {
				t.Errorf("%s: error %d is returned %d times", k.name, e, seen[e])
			}
		}
	}
}

func TestAllShortBits(t *testing.T) { // P9.2, P9.4, P9.5: all bits of up to 14
	for _, k := range lists() {
		whole := map[string]bool{}
		for n := range 15 {
			for v := range 1 << n {
				text := strconv.FormatInt(int64(1<<n+v), 2)[1:]
				if k.wantRead(t, text) != api.OK {
					continue
				}
				r, at := reader(text)
				k.read(r)
				if r.Pos()-at == len(text) {
					whole[text] = true
				} else if !whole[text[:r.Pos()-at]] {
					t.Fatalf("%s of %s ends after %d bits, but these alone are no list", k.name, text, r.Pos()-at)
				}
			}
		}
		for text := range whole {
			for n := range len(text) {
				if whole[text[:n]] {
					t.Fatalf("%s: the list %s begins with the list %s", k.name, text, text[:n])
				}
			}
		}
		if len(whole) < 50 {
			t.Errorf("%s: %d lists", k.name, len(whole))
		}
	}
}

// written returns the bits that the package writes for a list.
func (k list) written(t *testing.T, l []api.Mod) string {
	t.Helper()
	w := bits.Write()
	if e := k.put(w, l...); e != api.OK {
		t.Fatalf("Put%s(%v) = %d", k.name, l, e)
	}
	return w.Bits()
}

func TestSameBeginning(t *testing.T) { // P9.5, P9.6
	x := numbers(8)
	for _, k := range lists() {
		for range 3000 {
			l := k.commands(&x, x.below(30))
			same := k.written(t, l)
			same = same[:len(same)-len(ue(k.end))]
			a := k.written(t, append(slices.Clone(l), k.commands(&x, x.below(5))...))
			b := k.written(t, append(slices.Clone(l), k.commands(&x, x.below(5))...))
			if !strings.HasPrefix(a, same) || !strings.HasPrefix(b, same) {
				t.Fatalf("%s: %s and %s do not begin with %s", k.name, a, b, same)
			}
			if a != b && (strings.HasPrefix(a, b) || strings.HasPrefix(b, a)) {
				t.Fatalf("%s: %s and %s begin with each other", k.name, a, b)
			}
		}
	}
}

func TestResultsAreNew(t *testing.T) { // R3, R6: a list that was read is changed, and the bits are read again
	for _, k := range lists() {
		text := k.bits([]api.Mod{{Op: 1, A: 4}, {Op: 2, A: 5}})
		r, _ := reader(text + text)
		first, _ := k.read(r)
		again := r.Copy()
		second, _ := k.read(r)
		first[0].A, first[1].A = 8, 9
		third, _ := k.read(again)
		if second[0].A != 4 || second[1].A != 5 || !slices.Equal(second, third) {
			t.Errorf("%s: %v and %v", k.name, second, third)
		}
	}
}

func TestSeveralLists(t *testing.T) { // P9.2, P9.3: lists of both kinds, one after another
	x := numbers(9)
	for range 500 {
		w := bits.Write()
		var kinds []list
		var want [][]api.Mod
		text := ""
		for range 5 {
			k := lists()[x.below(2)]
			l := k.commands(&x, x.below(5))
			if e := k.put(w, append(slices.Clone(l), api.Mod{Op: 77})...); e != api.ErrKind {
				t.Fatalf("Put%s: error %d", k.name, e)
			}
			if e := k.put(w, l...); e != api.OK {
				t.Fatalf("Put%s: error %d", k.name, e)
			}
			kinds, want, text = append(kinds, k), append(want, l), text+k.bits(l)
		}
		if w.Bits() != text {
			t.Fatalf("the bits %s; want %s", w.Bits(), text)
		}
		r := bits.Read(w.Bytes())
		for i, k := range kinds {
			if l, e := k.read(r); e != api.OK || !slices.Equal(l, want[i]) {
				t.Fatalf("%s: %v, error %d; want %v", k.name, l, e, want[i])
			}
		}
	}
}
