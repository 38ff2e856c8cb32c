package header_test

import (
	"reflect"
	"slices"
	"strconv"
	"strings"

	"spindle/api"
	"spindle/bits"
	"spindle/sets"
)

// Headers are described here as S3 and the chapter say it, apart from the package.

const mostUe = 1<<32 - 2

// unit is what a header is one of.
type unit struct {
	ref uint8
	idr bool
	p   api.Pps
	s   api.Sps
}

// store returns a store that has the parameter sets of the unit.
func (u unit) store() *sets.Store {
	l := sets.New()
	l.PutSps(u.s)
	l.PutPps(u.p)
	return l
}

func zeros(n int) string { return strings.Repeat("0", n) }

func ones(n int) string { return strings.Repeat("1", n) }

// fixed returns a number of n bits.
func fixed(n, v int) string {
	s := strconv.FormatInt(int64(v), 2)
	return zeros(n-len(s)) + s
}

func flag(b bool) string {
	if b {
		return "1"
	}
	return "0"
}

func ue(v int) string {
	s := strconv.FormatInt(int64(v)+1, 2)
	return zeros(len(s)-1) + s
}

func se(v int) string {
	if v > 0 {
		return ue(2*v - 1)
	}
	return ue(-2 * v)
}

// list is a kind of lists of commands: how many numbers each Op has, and the Op at the end.
type list struct {
	numbers map[int]int
	end     int
}

func mods() list { return list{map[int]int{0: 1, 1: 1, 2: 1}, 3} }

func marks() list { return list{map[int]int{1: 1, 2: 1, 3: 2, 4: 1, 5: 0, 6: 1}, 0} }

func (k list) bits(l []api.Mod) string {
	text := ""
	for _, m := range l {
		text += ue(int(m.Op))
		for _, v := range []int{m.A, m.B}[:k.numbers[int(m.Op)]] {
			text += ue(v)
		}
	}
	return text + ue(k.end)
}

func (k list) valid(l []api.Mod) api.Errno {
	if len(l) > 66 {
		return api.ErrLong
	}
	for _, m := range l {
		n, ok := k.numbers[int(m.Op)]
		switch {
		case !ok:
			return api.ErrKind
		case n < 1 && m.A != 0 || n < 2 && m.B != 0:
			return api.ErrArg
		case m.A < 0 || m.A > mostUe || m.B < 0 || m.B > mostUe:
			return api.ErrRange
		}
	}
	return api.OK
}

func kind(x api.Header) int {
	n := 0
	if x.Intra {
		n += 2
	}
	if x.Whole {
		n += 5
	}
	return n
}

// parts returns the bits of the elements of a header, whose numbers may be out of their ranges.
func (u unit) parts(x api.Header) []string {
	l := []string{ue(x.First), ue(kind(x)), ue(x.Pps), fixed(u.s.FrameBits, x.Frame)}
	if u.idr {
		l = append(l, ue(x.Idr))
	}
	l = append(l, fixed(u.s.PocBits, x.Poc))
	if !x.Intra {
		l = append(l, flag(x.Over))
		if x.Over {
			l = append(l, ue(x.Refs-1))
		}
		l = append(l, flag(x.Listed))
		if x.Listed {
			l = append(l, mods().bits(x.Mods))
		}
	}
	if u.ref != 0 && u.idr {
		l = append(l, flag(x.Flags[0]), flag(x.Flags[1]))
	}
	if u.ref != 0 && !u.idr {
		l = append(l, flag(x.Adapted))
		if x.Adapted {
			l = append(l, marks().bits(x.Marks))
		}
	}
	if u.p.Cabac && !x.Intra {
		l = append(l, ue(x.Init))
	}
	l = append(l, se(x.Qp))
	if u.p.Deblock {
		l = append(l, ue(x.Filter))
		if x.Filter != 1 {
			l = append(l, se(x.A), se(x.B))
		}
	}
	return l
}

func (u unit) bits(x api.Header) string { return strings.Join(u.parts(x), "") }

// first returns the first error that there is.
func first(l ...api.Errno) api.Errno {
	for _, e := range l {
		if e != api.OK {
			return e
		}
	}
	return api.OK
}

func unless(ok bool, e api.Errno) api.Errno {
	if ok {
		return api.OK
	}
	return e
}

func within(v, least, most int) bool { return v >= least && v <= most }

// number is the error of a number that is there only if has is set.
func number(has bool, v, least, most int) api.Errno {
	if !has {
		return unless(v == 0, api.ErrArg)
	}
	return unless(within(v, least, most), api.ErrRange)
}

func (k list) field(has bool, l []api.Mod) api.Errno {
	if !has {
		return unless(len(l) == 0, api.ErrArg)
	}
	return k.valid(l)
}

// valid is the chapter's definition of what Check returns, for a unit and parameter sets that are as they must be.
func (u unit) valid(x api.Header) api.Errno {
	inter := !x.Intra
	offsets := u.p.Deblock && x.Filter != 1
	return first(
		number(true, x.First, 0, u.s.Width*u.s.Height-1),
		unless(x.Intra || !u.idr, api.ErrKind),
		unless(x.Pps == u.p.ID, api.ErrArg),
		number(true, x.Frame, 0, 1<<u.s.FrameBits-1),
		number(u.idr, x.Idr, 0, 65535),
		number(true, x.Poc, 0, 1<<u.s.PocBits-1),
		unless(inter || !x.Over, api.ErrArg),
		number(x.Over, x.Refs, 1, 32),
		unless(inter || !x.Listed, api.ErrArg),
		mods().field(x.Listed, x.Mods),
		unless(u.idr || x.Flags == [2]bool{}, api.ErrArg),
		unless(!u.idr && u.ref != 0 || !x.Adapted, api.ErrArg),
		marks().field(x.Adapted, x.Marks),
		number(inter && u.p.Cabac, x.Init, 0, 2),
		number(true, x.Qp, -26-u.p.Qp, 25-u.p.Qp),
		number(u.p.Deblock, x.Filter, 0, 2),
		number(offsets, x.A, -6, 6),
		number(offsets, x.B, -6, 6),
	)
}

// input is bits that are read; an error is a panic.
type input struct {
	left string
}

func (t *input) u(n int) int {
	if len(t.left) < n {
		panic(api.ErrShort)
	}
	v, _ := strconv.ParseUint(t.left[:n], 2, 64)
	t.left = t.left[n:]
	return int(v)
}

func (t *input) flag() bool { return t.u(1) == 1 }

func (t *input) ue() int {
	if strings.HasPrefix(t.left, zeros(32)) {
		panic(api.ErrForm)
	}
	n := strings.IndexByte(t.left, '1')
	if n < 0 {
		panic(api.ErrShort)
	}
	return t.u(2*n+1) - 1
}

// ranged reads a number of ue, and wants it in a range.
func (t *input) ranged(most int) int {
	v := t.ue()
	want(v <= most, api.ErrRange)
	return v
}

// signed reads a number of se, and wants it in a range.
func (t *input) signed(least, most int) int {
	v := t.ue()
	if v%2 == 1 {
		v = (v + 1) / 2
	} else {
		v = -v / 2
	}
	want(within(v, least, most), api.ErrRange)
	return v
}

func (t *input) list(k list) []api.Mod {
	var l []api.Mod
	for op := t.ue(); op != k.end; op = t.ue() {
		n, ok := k.numbers[op]
		want(ok, api.ErrKind)
		want(len(l) < 66, api.ErrLong)
		var v [2]int
		for i := range n {
			v[i] = t.ue()
		}
		l = append(l, api.Mod{Op: uint8(op), A: v[0], B: v[1]})
	}
	return l
}

func want(ok bool, e api.Errno) {
	if !ok {
		panic(e)
	}
}

// decode is the chapter's definition of reading: the header, and how many bits it has.
func decode(text string, ref uint8, idr bool, l *sets.Store) (x api.Header, n int, err api.Errno) {
	defer func() {
		if e, ok := recover().(api.Errno); ok {
			x, n, err = api.Header{}, 0, e
		}
	}()
	t := &input{text}
	x.First = t.ue()
	kind := t.ue()
	want(slices.Contains([]int{0, 2, 5, 7}, kind), api.ErrKind)
	x.Intra, x.Whole = kind == 2 || kind == 7, kind > 4
	want(x.Intra || !idr, api.ErrKind)
	x.Pps = t.ue()
	p, s, e := l.Get(x.Pps)
	want(e == api.OK, e)
	want(x.First < s.Width*s.Height, api.ErrRange)
	x.Frame = t.u(s.FrameBits)
	if idr {
		x.Idr = t.ranged(65535)
	}
	x.Poc = t.u(s.PocBits)
	t.references(&x)
	switch {
	case idr:
		x.Flags = [2]bool{t.flag(), t.flag()}
	case ref != 0:
		if x.Adapted = t.flag(); x.Adapted {
			x.Marks = t.list(marks())
		}
	}
	if p.Cabac && !x.Intra {
		x.Init = t.ranged(2)
	}
	x.Qp = t.signed(-26-p.Qp, 25-p.Qp)
	if p.Deblock {
		x.Filter = t.ranged(2)
		if x.Filter != 1 {
			x.A, x.B = t.signed(-6, 6), t.signed(-6, 6)
		}
	}
	return x, len(text) - len(t.left), api.OK
}

// references reads what only slices of kind P have.
func (t *input) references(x *api.Header) {
	if x.Intra {
		return
	}
	if x.Over = t.flag(); x.Over {
		x.Refs = 1 + t.ranged(31)
	}
	if x.Listed = t.flag(); x.Listed {
		x.Mods = t.list(mods())
	}
}

// plain returns a header whose empty lists are nil, so that equal ones are deeply equal.
func plain(x api.Header) api.Header {
	if len(x.Mods) == 0 {
		x.Mods = nil
	}
	if len(x.Marks) == 0 {
		x.Marks = nil
	}
	return x
}

func same(x, y api.Header) bool { return reflect.DeepEqual(plain(x), plain(y)) }

// clone returns a header that shares no memory with x.
func clone(x api.Header) api.Header {
	x.Mods, x.Marks = slices.Clone(x.Mods), slices.Clone(x.Marks)
	return x
}

// padded returns bits as whole bytes, with zeros after them.
func padded(text string) string {
	text += zeros((8 - len(text)%8) % 8)
	b := make([]byte, len(text)/8)
	for i := range b {
		v, _ := strconv.ParseUint(text[8*i:8*i+8], 2, 8)
		b[i] = byte(v)
	}
	return string(b)
}

// reader returns a reader of which exactly these bits are left, and where it is.
func reader(text string) (*bits.Reader, int) {
	before := (8 - len(text)%8) % 8
	r := bits.Read(padded(ones(before) + text))
	r.U(before)
	return r, before
}

// numbers yields the same numbers in every run.
type numbers uint64

func (x *numbers) below(n int) int {
	*x ^= *x << 13
	*x ^= *x >> 7
	*x ^= *x << 17
	return int(uint64(*x) % uint64(n))
}

func (x *numbers) bit() bool { return x.below(2) == 1 }

// from returns a number that is often the least or the greatest one.
func (x *numbers) from(least, most int) int {
	switch x.below(5) {
	case 0:
		return least
	case 1:
		return most
	}
	return least + x.below(most-least+1)
}

// unit returns a unit with valid parameter sets.
func (x *numbers) unit() unit {
	s := api.Sps{Profile: uint8(x.below(256)), Flags: uint8(x.below(256)), Level: uint8(x.below(256)), ID: x.below(32),
		FrameBits: x.from(4, 16), PocBits: x.from(4, 16), Refs: x.below(17), Width: x.from(1, 128)}
	s.Height = x.from(1, min(128, 8160/s.Width))
	p := api.Pps{ID: x.below(32), Sps: s.ID, Cabac: x.bit(), Refs: x.from(1, 32), Refs1: x.from(1, 32), Qp: x.from(-26, 25),
		Qs: x.from(-26, 25), Chroma: x.from(-12, 12), Deblock: x.bit(), Intra: x.bit()}
	u := unit{uint8(x.below(4)), x.below(3) == 0, p, s}
	if u.idr && u.ref == 0 {
		u.ref = 1
	}
	return u
}

// commands returns a valid list, which is short most of the times.
func (x *numbers) commands(k list) []api.Mod {
	n := x.below(4)
	if x.below(20) == 0 {
		n = 60 + x.below(7)
	}
	var l []api.Mod
	for len(l) < n {
		op := x.below(7)
		count, ok := k.numbers[op]
		if !ok {
			continue
		}
		m := api.Mod{Op: uint8(op)}
		if count > 0 {
			m.A = x.from(0, []int{5, mostUe}[x.below(2)])
		}
		if count > 1 {
			m.B = x.from(0, []int{5, mostUe}[x.below(2)])
		}
		l = append(l, m)
	}
	return l
}

// header returns a valid header of a unit.
func (x *numbers) header(u unit) api.Header {
	h := api.Header{First: x.from(0, u.s.Width*u.s.Height-1), Intra: u.idr || x.below(3) == 0, Whole: x.bit(), Pps: u.p.ID,
		Frame: x.from(0, 1<<u.s.FrameBits-1), Poc: x.from(0, 1<<u.s.PocBits-1), Qp: x.from(-26-u.p.Qp, 25-u.p.Qp)}
	if u.idr {
		h.Idr, h.Flags = x.from(0, 65535), [2]bool{x.bit(), x.bit()}
	}
	if !h.Intra {
		x.references(&h, u)
	}
	if !u.idr && u.ref > 0 && x.bit() {
		h.Adapted, h.Marks = true, x.commands(marks())
	}
	if u.p.Deblock {
		h.Filter = x.below(3)
		if h.Filter != 1 {
			h.A, h.B = x.from(-6, 6), x.from(-6, 6)
		}
	}
	return h
}

// references gives a header what only slices of kind P have.
func (x *numbers) references(h *api.Header, u unit) {
	if x.bit() {
		h.Over, h.Refs = true, x.from(1, 32)
	}
	if x.bit() {
		h.Listed, h.Mods = true, x.commands(mods())
	}
	if u.p.Cabac {
		h.Init = x.below(3)
	}
}
