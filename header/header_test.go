package header_test

import (
	"math"
	"slices"
	"strconv"
	"strings"
	"testing"

	"spindle/api"
	"spindle/bits"
	"spindle/header"
	"spindle/sets"
)

// The parameter sets and the header of the chapter's examples.

func sequence() api.Sps {
	return api.Sps{Profile: 77, Level: 10, FrameBits: 4, PocBits: 4, Refs: 1, Width: 1, Height: 1}
}

func picture() api.Pps { return api.Pps{Refs: 1, Refs1: 1} }

func intra() api.Header { return api.Header{Intra: true} }

func (u unit) check(x api.Header) api.Errno { return header.Check(x, u.ref, u.idr, u.p, u.s) }

func (u unit) put(w *bits.Writer, x api.Header) api.Errno {
	return header.Put(w, x, u.ref, u.idr, u.p, u.s)
}

func (u unit) read(r *bits.Reader) (api.Header, api.Errno) {
	return header.Read(r, u.ref, u.idr, u.store())
}

// wantCheck compares the check with its definition, and writing with the check.
func (u unit) wantCheck(t *testing.T, x api.Header) api.Errno {
	t.Helper()
	err := u.valid(x)
	given := clone(x)
	if e := u.check(given); e != err {
		t.Fatalf("Check(%+v) for %+v = %d; want %d", x, u, e, err)
	}
	w := bits.Write()
	w.Put(3, 5)
	text := "101"
	if err == api.OK {
		text += u.bits(x)
	}
	if e := u.put(w, given); e != err || w.Bits() != text {
		t.Fatalf("Put(%+v) for %+v = %d, bits %s; want %d, %s", x, u, e, w.Bits(), err, text)
	}
	if !same(given, x) {
		t.Fatalf("%+v became %+v", x, given)
	}
	return err
}

// wantRead compares reading with its definition, and returns the error.
func (u unit) wantRead(t *testing.T, text string, l *sets.Store) api.Errno {
	t.Helper()
	x, n, err := decode(text, u.ref, u.idr, l)
	r, at := reader(text)
	got, e := header.Read(r, u.ref, u.idr, l)
	if !same(got, x) || e != err || r.Pos() != at+n {
		t.Fatalf("Read of %s for %+v: %+v, error %d, at %d; want %+v, %d, %d", text, u, got, e, r.Pos()-at, x, err, n)
	}
	return e
}

// wantError checks an error of reading.
func (u unit) wantError(t *testing.T, text string, l *sets.Store, err api.Errno) {
	t.Helper()
	if e := u.wantRead(t, text, l); e != err {
		t.Fatalf("Read of %s for %+v: error %d; want %d", text, u, e, err)
	}
}

// wantHeader checks that a valid header is written, and read whatever comes after it.
func (u unit) wantHeader(t *testing.T, x api.Header, after string) {
	t.Helper()
	if e := u.wantCheck(t, x); e != api.OK {
		t.Fatalf("Check(%+v) for %+v = %d", x, u, e)
	}
	text := u.bits(x)
	r, at := reader(text + after)
	if got, e := u.read(r); !same(got, x) || e != api.OK || r.Pos() != at+len(text) {
		t.Fatalf("Read of %s and %s for %+v: %+v, error %d, at %d; want %+v", text, after, u, got, e, r.Pos()-at, x)
	}
}

func wantSeen(t *testing.T, seen map[api.Errno]int, n int, l ...api.Errno) {
	t.Helper()
	for _, e := range l {
		if seen[e] < n {
			t.Errorf("error %d is returned %d times", e, seen[e])
		}
	}
}

func TestExamples(t *testing.T) { // P10.1 to P10.4
	more := picture()
	more.Cabac, more.Deblock = true, true
	for _, c := range []struct {
		u    unit
		x    api.Header
		want string
	}{
		{unit{1, true, picture(), sequence()}, intra(), "1" + "011" + "1" + "0000" + "1" + "0000" + "0" + "0" + "1"},
		{unit{0, false, picture(), sequence()}, intra(), "1" + "011" + "1" + "0000" + "0000" + "1"},
		{unit{1, false, more, sequence()}, api.Header{}, "1" + "1" + "1" + "0000" + "0000" + "0" + "0" + "0" + "1" + "1" + "1" + "1" + "1"},
	} {
		w := bits.Write()
		if e := c.u.put(w, c.x); e != api.OK || w.Bits() != c.want {
			t.Errorf("Put(%+v): error %d, bits %s; want %s", c.x, e, w.Bits(), c.want)
		}
		r := bits.Read(w.Bytes())
		if x, e := c.u.read(r); !same(x, c.x) || e != api.OK || r.Pos() != len(c.want) {
			t.Errorf("Read of %s: %+v, error %d, at %d", c.want, x, e, r.Pos())
		}
		c.u.wantHeader(t, c.x, "1")
	}
	u := unit{1, true, picture(), sequence()}
	first, over, qp := intra(), intra(), intra()
	first.First, over.Over, qp.Qp = 1, true, -27
	for i, c := range []struct{ got, want api.Errno }{
		{u.check(api.Header{}), api.ErrKind},
		{u.check(first), api.ErrRange},
		{u.check(over), api.ErrArg},
		{header.Check(intra(), 0, true, picture(), sequence()), api.ErrArg},
		{u.check(qp), api.ErrRange},
	} {
		if c.got != c.want {
			t.Errorf("check %d: error %d; want %d", i, c.got, c.want)
		}
	}
	if a, b, c := header.Refs(intra(), picture()), header.Refs(api.Header{}, picture()), header.Qp(intra(), picture()); a != 0 || b != 1 || c != 26 {
		t.Errorf("Refs and Qp: %d, %d, %d", a, b, c)
	}
}

func TestNil(t *testing.T) { // P10.2, P10.3, R5: before anything else is looked at
	u := unit{1, false, picture(), sequence()}
	for ref := range 256 {
		for _, idr := range []bool{false, true} {
			r, _ := reader(ones(20))
			at := r.Pos()
			if x, e := header.Read(nil, uint8(ref), idr, u.store()); e != api.ErrNil || !same(x, api.Header{}) {
				t.Errorf("Read of a nil reader: %+v, %d", x, e)
			}
			if x, e := header.Read(r, uint8(ref), idr, nil); e != api.ErrNil || !same(x, api.Header{}) || r.Pos() != at {
				t.Errorf("Read for a nil store: %+v, %d", x, e)
			}
			if x, e := header.Read(nil, uint8(ref), idr, nil); e != api.ErrNil || !same(x, api.Header{}) {
				t.Errorf("Read of nil: %+v, %d", x, e)
			}
			for _, x := range []api.Header{{}, intra(), {First: -1}, {Pps: 7}, {Listed: true, Mods: make([]api.Mod, 67)}} {
				if e := header.Put(nil, x, uint8(ref), idr, u.p, u.s); e != api.ErrNil {
					t.Errorf("Put to nil: %d", e)
				}
				if e := header.Put(nil, x, uint8(ref), idr, api.Pps{}, api.Sps{}); e != api.ErrNil {
					t.Errorf("Put to nil: %d", e)
				}
			}
		}
	}
	if x, e := u.read(&bits.Reader{}); e != api.ErrShort || !same(x, api.Header{}) {
		t.Errorf("Read of no bits: %+v, %d", x, e)
	}
	if x, e := header.Read(bits.Read("\xff\xff"), 1, false, &sets.Store{}); e != api.ErrNone || !same(x, api.Header{}) {
		t.Errorf("Read for no parameter sets: %+v, %d", x, e)
	}
}

func TestUnits(t *testing.T) { // P10.1, P10.2, P10.3: ref and idr, before anything else but nil
	wrong := picture()
	wrong.Refs = 0
	for ref := range 256 {
		for _, idr := range []bool{false, true} {
			u := unit{uint8(ref), idr, picture(), sequence()}
			want := unless(ref < 4 && (ref > 0 || !idr), api.ErrArg)
			w := bits.Write()
			if e, f := u.check(intra()), u.put(w, intra()); e != want || f != want || want != api.OK && w.Len() != 0 {
				t.Errorf("Check and Put for %d, %t: %d, %d, bits %s; want %d", ref, idr, e, f, w.Bits(), want)
			}
			r, at := reader(u.bits(intra()))
			if _, e := u.read(r); e != want || want != api.OK && r.Pos() != at {
				t.Errorf("Read for %d, %t: %d, at %d; want %d", ref, idr, e, r.Pos(), want)
			}
			if want == api.OK {
				continue
			}
			for _, x := range []api.Header{{}, {First: -1}, {Intra: true, First: 1}} {
				if e := header.Check(x, u.ref, idr, wrong, api.Sps{}); e != want {
					t.Errorf("Check for %d, %t: %d; want %d", ref, idr, e, want)
				}
			}
			if _, e := u.read(&bits.Reader{}); e != want {
				t.Errorf("Read of no bits for %d, %t: %d; want %d", ref, idr, e, want)
			}
		}
	}
}

func TestCheckSets(t *testing.T) { // P10.1: the parameter sets, and whether they belong together, before the fields
	x := numbers(1)
	for range 300 {
		u := x.unit()
		h := x.header(u)
		other := u
		other.p.Sps = (u.s.ID + 1 + x.below(31)) % 32
		var sequences, pictures []unit
		for _, v := range []int{math.MinInt, -27, 33, 1 << 40, math.MaxInt} {
			s, p := u, u
			for i, f := range []*int{&s.s.FrameBits, &s.s.PocBits, &s.s.Width, &s.s.Height, &s.s.Refs, &s.s.ID} {
				old := *f
				if *f = v; i == 2 || i == 3 {
					*f = min(v, 0) // or 33 would be valid
				}
				sequences = append(sequences, s)
				*f = old
			}
			for _, f := range []*int{&p.p.ID, &p.p.Sps, &p.p.Refs, &p.p.Refs1, &p.p.Qp, &p.p.Qs, &p.p.Chroma} {
				old := *f
				*f = v
				pictures = append(pictures, p)
				*f = old
			}
		}
		broken := h
		broken.Intra, broken.Pps, broken.Refs, broken.Over = true, -1, 4, false
		for _, y := range []api.Header{h, broken, {Mods: make([]api.Mod, 67), Listed: true}} {
			for _, v := range append(sequences, pictures...) {
				w := bits.Write()
				if e, f := v.check(y), v.put(w, y); e != api.ErrRange || f != e || w.Len() != 0 {
					t.Fatalf("Check and Put for %+v: %d, %d, bits %s", v, e, f, w.Bits())
				}
			}
			y.First = -1
			if e := other.check(y); e != api.ErrArg {
				t.Fatalf("Check for %+v: %d", other, e)
			}
		}
		sequences[0].p.Sps = (u.s.ID + 1) % 32
		if e := sequences[0].check(h); e != api.ErrRange {
			t.Fatalf("Check for %+v: %d", sequences[0], e)
		}
	}
}

// fields returns where the numbers of a header are.
func fields(x *api.Header) []*int {
	return []*int{&x.First, &x.Pps, &x.Frame, &x.Idr, &x.Poc, &x.Refs, &x.Init, &x.Qp, &x.Filter, &x.A, &x.B}
}

// flags returns where the flags of a header are.
func flags(x *api.Header) []*bool {
	return []*bool{&x.Intra, &x.Whole, &x.Over, &x.Listed, &x.Flags[0], &x.Flags[1], &x.Adapted}
}

func TestCheckNumbers(t *testing.T) { // P10.1, P10.3: each number, at its limits and beyond
	x := numbers(2)
	seen := map[api.Errno]int{}
	for range 150 {
		u := x.unit()
		h := x.header(u)
		size, frame, poc, qp := u.s.Width*u.s.Height, 1<<u.s.FrameBits, 1<<u.s.PocBits, 26+u.p.Qp
		vs := []int{math.MinInt, math.MinInt + 51, -1 << 32, -27, -8, math.MaxInt, math.MaxInt - 1, math.MaxInt - 51, 1 << 31, 1 << 32, 1<<32 + 1, 65534, 65535, 65536,
			size - 1, size, size + 1, frame - 1, frame, poc - 1, poc, -qp - 1, -qp, -qp + 1, 50 - qp, 51 - qp, 52 - qp, u.p.ID, u.p.ID + 1}
		for v := -7; v < 36; v++ {
			vs = append(vs, v)
		}
		for _, f := range fields(&h) {
			old := *f
			for _, v := range vs {
				*f = v
				seen[u.wantCheck(t, h)]++
			}
			*f = old
		}
	}
	wantSeen(t, seen, 3000, api.OK, api.ErrArg, api.ErrRange)
}

func TestCheckFlags(t *testing.T) { // P10.1: all flags, with and without the fields that depend on them
	x := numbers(3)
	seen := map[api.Errno]int{}
	for range 200 {
		u := x.unit()
		for set := range 1 << 7 {
			var h api.Header
			h.Pps = u.p.ID
			for i, f := range flags(&h) {
				*f = set>>i&1 == 1
			}
			for _, n := range []int{0, 1} {
				h.Refs, h.Init = n, n*x.below(2)
				h.Mods, h.Marks = make([]api.Mod, n*x.below(2)), nil
				if n*x.below(2) == 1 {
					h.Marks = []api.Mod{{Op: 5}}
				}
				h.Qp = x.from(-26-u.p.Qp, 25-u.p.Qp)
				seen[u.wantCheck(t, h)]++
			}
		}
	}
	wantSeen(t, seen, 500, api.OK, api.ErrArg, api.ErrRange, api.ErrKind)
}

func TestCheckLists(t *testing.T) { // P10.1: the errors of chapter 9; lists that the header does not have are empty
	long := make([]api.Mod, 67)
	ops := []api.Mod{{Op: 0}, {Op: 1, A: 3}, {Op: 2, A: mostUe}, {Op: 3}, {Op: 3, A: 1, B: 2}, {Op: 4}, {Op: 5}, {Op: 5, A: 1}, {Op: 6}, {Op: 7}, {Op: 255}, {B: 1}, {Op: 1, A: -1}, {Op: 1, A: mostUe + 1}, {Op: 1, B: -1}}
	lists := [][]api.Mod{nil, {}, long, long[:66]}
	for _, m := range ops {
		lists = append(lists, []api.Mod{m}, []api.Mod{{Op: 1, A: 1}, m, {Op: 9}})
	}
	seen := map[api.Errno]int{}
	x := numbers(4)
	for range 100 {
		u := x.unit()
		for _, l := range lists {
			h := x.header(u)
			h.Mods = l
			seen[u.wantCheck(t, h)]++
			h = x.header(u)
			h.Marks = l
			seen[u.wantCheck(t, h)]++
			h.Adapted, h.Listed, h.Mods = true, true, l
			seen[u.wantCheck(t, h)]++
		}
	}
	wantSeen(t, seen, 50, api.OK, api.ErrArg, api.ErrRange, api.ErrKind, api.ErrLong)
}

// spoil changes fields of a header, so that it may not be valid.
func (x *numbers) spoil(h *api.Header) {
	for range 1 + x.below(3) {
		switch x.below(5) {
		case 0, 1:
			*fields(h)[x.below(11)] = []int{-1, 0, 1, 2, 3, 7, 33, 70000, math.MaxInt, math.MinInt}[x.below(10)]
		case 2, 3:
			f := flags(h)[x.below(7)]
			*f = !*f
		default:
			l := []api.Mod{{Op: uint8(x.below(8)), A: x.below(3) - 1}}
			if x.bit() {
				h.Mods = l
			} else {
				h.Marks = l
			}
		}
	}
}

func TestCheckOrder(t *testing.T) { // P10.1, R2: the first field that is wrong decides
	x := numbers(5)
	seen := map[api.Errno]int{}
	for range 100000 {
		u := x.unit()
		h := x.header(u)
		x.spoil(&h)
		seen[u.wantCheck(t, h)]++
	}
	wantSeen(t, seen, 500, api.OK, api.ErrArg, api.ErrRange, api.ErrKind)
}

func TestHeaders(t *testing.T) { // P10.2, P10.3, P10.5: whatever comes after the header
	x := numbers(6)
	for range 6000 {
		u := x.unit()
		h := x.header(u)
		u.wantHeader(t, h, "")
		u.wantHeader(t, h, zeros(40))
		u.wantHeader(t, h, ones(1+x.below(9)))
		u.wantHeader(t, h, u.bits(x.header(u)))
	}
}

func TestLongLists(t *testing.T) { // P10.2, P10.3: lists of MaxMods commands with the greatest numbers
	u := unit{3, false, picture(), sequence()}
	h := api.Header{Listed: true, Adapted: true}
	for range 66 {
		h.Mods = append(h.Mods, api.Mod{Op: 2, A: mostUe})
		h.Marks = append(h.Marks, api.Mod{Op: 3, A: mostUe, B: mostUe})
	}
	u.wantHeader(t, h, "")
	text := u.bits(h)
	for n := 0; n < len(text); n += 7 {
		u.wantError(t, text[:n], u.store(), api.ErrShort)
	}
	for _, l := range []*[]api.Mod{&h.Mods, &h.Marks} {
		old := *l
		*l = append(slices.Clone(old), api.Mod{Op: 1})
		u.wantCheck(t, h)
		u.wantError(t, u.bits(h), u.store(), api.ErrLong)
		*l = old
	}
}

func TestReadEnds(t *testing.T) { // P10.2, R5: the bits end, or a code is too long; the reader stays
	x := numbers(7)
	for range 150 {
		u := x.unit()
		h := x.header(u)
		text, l := u.bits(h), u.store()
		for n := range len(text) {
			u.wantError(t, text[:n], l, api.ErrShort)
		}
		before := ""
		for _, part := range u.parts(h) {
			u.wantRead(t, before+zeros(32), l)
			u.wantRead(t, before+zeros(32)+ones(40), l)
			before += part
		}
		u.wantError(t, zeros(32)+text, l, api.ErrForm)
		u.wantError(t, ue(h.First)+zeros(32)+text, l, api.ErrForm)
		u.wantError(t, ue(h.First)+ue(kind(h))+zeros(32)+text, l, api.ErrForm)
	}
}

func TestSliceTypes(t *testing.T) { // P10.2: each slice_type, before Pps is read
	x := numbers(8)
	for range 200 {
		u := x.unit()
		l := u.store()
		types := []int{255, 256, 257, 258, 261, 1 << 16, 1<<31 + 2, 1<<32 - 4, mostUe}
		for v := range 40 {
			types = append(types, v)
		}
		for _, v := range types {
			first := ue(x.from(0, mostUe))
			err := api.ErrShort
			if v != 2 && v != 7 && (u.idr || v != 0 && v != 5) {
				err = api.ErrKind
			}
			u.wantError(t, first+ue(v), l, err)
			u.wantError(t, first+ue(v), sets.New(), err)
		}
		h := x.header(u)
		parts := u.parts(h)
		for _, v := range types {
			parts[1] = ue(v)
			u.wantRead(t, strings.Join(parts, ""), l)
		}
	}
}

func TestReadSets(t *testing.T) { // P10.2: the errors of sets.Get after Pps, and only then that of First
	x := numbers(9)
	for range 200 {
		u := x.unit()
		h := x.header(u)
		l := u.store()
		for _, at := range []int{0, u.s.Width*u.s.Height - 1, u.s.Width * u.s.Height, 1 << 31, mostUe} {
			before := ue(at) + ue(kind(h))
			for _, v := range []int{32, 33, 255, 256, 1 << 16, 1 << 31, 1<<31 + u.p.ID, mostUe - 1, mostUe} {
				u.wantError(t, before+ue(v), l, api.ErrRange)
				u.wantError(t, before+ue(v)+ones(60), sets.New(), api.ErrRange)
			}
			for v := range 32 {
				if v != u.p.ID {
					u.wantError(t, before+ue(v), l, api.ErrNone)
				}
				u.wantError(t, before+ue(v)+ones(60), sets.New(), api.ErrNone)
			}
			lonely := sets.New()
			lonely.PutPps(u.p)
			u.wantError(t, before+ue(u.p.ID)+ones(60), lonely, api.ErrNone)
			err := api.ErrShort
			if at >= u.s.Width*u.s.Height {
				err = api.ErrRange
			}
			u.wantError(t, before+ue(u.p.ID), l, err)
		}
	}
}

func TestReadRanges(t *testing.T) { // P10.2: each number beyond its range, whether or not bits come after it
	x := numbers(10)
	seen := map[api.Errno]int{}
	for range 600 {
		u := x.unit()
		u.p.Deblock = true
		h := x.header(u)
		qp := 26 + u.p.Qp
		l := u.store()
		for _, c := range []struct {
			v   *int
			to  []int
			has bool
		}{
			{&h.First, []int{u.s.Width * u.s.Height, 1 << 16, 1 << 31, mostUe}, true},
			{&h.Idr, []int{65534, 65536, 1 << 17, mostUe}, u.idr},
			{&h.Refs, []int{31, 33, 34, 1 << 31, mostUe + 1}, h.Over},
			{&h.Init, []int{2, 3, 4, 256, mostUe}, !h.Intra && u.p.Cabac},
			{&h.Qp, []int{-qp - 1, -qp - 2, 52 - qp, 53 - qp, -1 << 30, 1 << 30, 1 - 1<<31, 1<<31 - 1}, true},
			{&h.Filter, []int{0, 1, 2, 3, 4, 256, mostUe}, true},
			{&h.A, []int{-7, -6, 6, 7, 8, 1 - 1<<31, 1<<31 - 1}, h.Filter != 1},
			{&h.B, []int{-7, -6, 6, 7, 8, 1 - 1<<31, 1<<31 - 1}, h.Filter != 1},
		} {
			if !c.has {
				continue
			}
			old := *c.v
			for _, v := range c.to {
				*c.v = v
				text := u.bits(h)
				seen[u.wantRead(t, text, l)]++
				u.wantRead(t, text+ones(20), l)
				u.wantRead(t, text+zeros(40), l)
				u.wantRead(t, text[:len(text)-x.below(6)], l)
			}
			*c.v = old
		}
	}
	wantSeen(t, seen, 500, api.OK, api.ErrRange)
}

func TestReadLists(t *testing.T) { // P10.2: the errors of chapter 9, where the lists are
	x := numbers(11)
	seen := map[api.Errno]int{}
	for i := range 3000 {
		u := x.unit()
		u.idr, u.ref = false, 1
		h := x.header(u)
		h.Intra, h.Adapted, h.Listed = false, true, true
		l := u.store()
		parts := u.parts(h)
		at := 7 // of Mods, if there is no Refs
		if h.Over {
			at = 8
		}
		at += 2 * (i % 2)
		k := []list{mods(), marks()}[i%2]
		broken := k.bits(x.commands(k))
		broken = broken[:len(broken)-len(ue(k.end))] + ue(x.below(9))
		seen[u.wantRead(t, strings.Join(parts[:at], "")+broken, l)]++
		seen[u.wantRead(t, strings.Join(parts[:at], "")+broken+strings.Join(parts[at:], ""), l)]++
		seen[u.wantRead(t, strings.Join(parts[:at], "")+broken+zeros(32), l)]++
	}
	wantSeen(t, seen, 200, api.OK, api.ErrKind, api.ErrShort, api.ErrForm)
}

// wantValid checks what was read, and that it is written with the bits that were read.
func (u unit) wantValid(t *testing.T, text string, l *sets.Store) {
	t.Helper()
	r, at := reader(text)
	x, _ := header.Read(r, u.ref, u.idr, l)
	p, s, _ := l.Get(x.Pps)
	v := unit{u.ref, u.idr, p, s}
	w := bits.Write()
	if e, f := v.check(x), v.put(w, x); e != api.OK || f != api.OK || w.Bits() != text[:r.Pos()-at] {
		t.Fatalf("Read of %s: %+v, which is not valid, or has the bits %s", text, x, w.Bits())
	}
	if q := header.Qp(x, p); q < 0 || q > 51 {
		t.Fatalf("Read of %s: %+v, whose quantizer is %d", text, x, q)
	}
	if n := header.Refs(x, p); x.Intra && n != 0 || !x.Intra && (n < 1 || n > 32) {
		t.Fatalf("Read of %s: %+v, which has %d reference indices", text, x, n)
	}
}

func TestAnyBits(t *testing.T) { // P10.2, P10.5, P10.6: any bits, and headers in which bits are changed
	x := numbers(12)
	seen := map[api.Errno]int{}
	for i := range 60000 {
		u := x.unit()
		l := u.store()
		if x.bit() {
			other := x.unit()
			l.PutSps(other.s)
			l.PutPps(other.p)
		}
		b := []byte(u.bits(x.header(u)) + ones(x.below(4)))
		if i%4 == 0 {
			b = []byte(zeros(3 + x.below(60)))
			for j := range b {
				b[j] = '0' + byte(x.below(2))
			}
		}
		for range x.below(4) {
			b[x.below(len(b))] ^= 1
		}
		e := u.wantRead(t, string(b), l)
		seen[e]++
		if e == api.OK {
			u.wantValid(t, string(b), l)
		}
	}
	wantSeen(t, seen, 500, api.OK, api.ErrKind, api.ErrShort, api.ErrRange, api.ErrNone)
}

// starts returns the bits of headers of a unit up to Poc.
func (u unit) starts() []string {
	var l []string
	for _, at := range []int{0, u.s.Width*u.s.Height - 1, u.s.Width * u.s.Height} {
		for _, kind := range []int{0, 2, 7} {
			text := ue(at) + ue(kind) + ue(u.p.ID) + fixed(u.s.FrameBits, 5)
			if u.idr {
				text += ue(3)
			}
			l = append(l, text+fixed(u.s.PocBits, 10))
		}
	}
	return l
}

func TestAllShortBits(t *testing.T) { // P10.2, P10.5, P10.6, P10.7: all bits of up to 9 after Poc, and at the beginning, for units of all kinds
	for shape := range 32 {
		p, s := picture(), sequence()
		p.Cabac, p.Deblock = shape&4 != 0, shape&8 != 0
		s.Width = 1 + shape>>4
		u := unit{uint8(shape >> 1 & 1), shape&3 == 3, p, s}
		whole := map[string]bool{}
		for _, start := range append(u.starts(), "") {
			u.allShortBits(t, start, whole)
		}
		for text := range whole {
			for n := range len(text) {
				if whole[text[:n]] {
					t.Fatalf("the header %s begins with the header %s", text, text[:n])
				}
			}
		}
		if len(whole) < 20 {
			t.Errorf("%d headers for %+v", len(whole), u)
		}
	}
}

// allShortBits reads all bits of up to 9 after a start, and collects the whole headers.
func (u unit) allShortBits(t *testing.T, start string, whole map[string]bool) {
	t.Helper()
	l := u.store()
	for n := range 10 {
		for v := range 1 << n {
			text := start + strconv.FormatInt(int64(1<<n+v), 2)[1:]
			if u.wantRead(t, text, l) != api.OK {
				continue
			}
			u.wantValid(t, text, l)
			r, at := reader(text)
			u.read(r)
			if r.Pos()-at == len(text) {
				whole[text] = true
			} else if !whole[text[:r.Pos()-at]] {
				t.Fatalf("Read of %s ends after %d bits, but these alone are no header", text, r.Pos()-at)
			}
		}
	}
}

// written returns the bits that the package writes for a header.
func (u unit) written(t *testing.T, x api.Header) string {
	t.Helper()
	w := bits.Write()
	if e := u.put(w, x); e != api.OK {
		t.Fatalf("Put(%+v) for %+v = %d", x, u, e)
	}
	return w.Bits()
}

func TestNoBeginning(t *testing.T) { // P10.7: headers of the same unit, many of which differ in a field or two
	x := numbers(13)
	for range 1000 {
		u := x.unit()
		h := x.header(u)
		texts := []string{u.written(t, h)}
		headers := []api.Header{h}
		for len(texts) < 12 {
			g := x.header(u)
			y := clone(h)
			for range 1 + x.below(2) {
				i := x.below(11)
				*fields(&y)[i] = *fields(&g)[i]
			}
			if x.bit() {
				y.Mods, y.Listed, y.Marks, y.Adapted = g.Mods, g.Listed, g.Marks, g.Adapted
			}
			if u.check(y) != api.OK {
				y = g
			}
			text := u.written(t, y)
			for i, other := range texts {
				equal := same(y, headers[i])
				if equal != (text == other) || !equal && (strings.HasPrefix(text, other) || strings.HasPrefix(other, text)) {
					t.Fatalf("%+v and %+v for %+v have the bits %s and %s", y, headers[i], u, text, other)
				}
			}
			texts, headers = append(texts, text), append(headers, y)
		}
	}
}

func TestCabac(t *testing.T) { // P10.8
	x := numbers(14)
	for range 5000 {
		u := x.unit()
		u.p.Cabac = false
		h := x.header(u)
		text := u.written(t, h)
		u.p.Cabac = true
		want := text
		if !h.Intra {
			after := se(h.Qp)
			if u.p.Deblock {
				after += ue(h.Filter)
				if h.Filter != 1 {
					after += se(h.A) + se(h.B)
				}
			}
			want = strings.TrimSuffix(text, after) + "1" + after
		}
		if got := u.written(t, h); got != want {
			t.Fatalf("%+v: the bits %s; with arithmetic codes %s; want %s", h, text, got, want)
		}
	}
}

func TestRefs(t *testing.T) { // P10.4: for any header and parameter set
	vs := []int{math.MinInt, -1, 0, 1, 2, 32, 33, math.MaxInt}
	for _, a := range vs {
		for _, b := range vs {
			for set := range 4 {
				x := api.Header{Intra: set&1 != 0, Over: set&2 != 0, Refs: a}
				want := b
				if x.Over {
					want = a
				}
				if x.Intra {
					want = 0
				}
				if n := header.Refs(x, api.Pps{Refs: b, Refs1: 9}); n != want {
					t.Errorf("Refs(%+v) for %d = %d; want %d", x, b, n, want)
				}
			}
		}
	}
}

func TestQp(t *testing.T) { // P10.4: for any header and parameter set
	for _, a := range []int{math.MinInt, -100, -26, -1, 0, 1, 25, 1000, math.MaxInt} {
		for b := -60; b < 60; b++ {
			x := api.Header{Qp: b, First: -1, A: 3}
			if q := header.Qp(x, api.Pps{Qp: a, Qs: 5}); q != 26+a+b {
				t.Errorf("Qp of %d and %d = %d; want %d", a, b, q, 26+a+b)
			}
			if q := header.Qp(api.Header{Qp: a}, api.Pps{Qp: b}); q != 26+a+b {
				t.Errorf("Qp of %d and %d = %d; want %d", b, a, q, 26+a+b)
			}
		}
	}
}

func TestResultsAreNew(t *testing.T) { // R3, R6: a header that was read is changed, and the bits are read again
	u := unit{1, false, picture(), sequence()}
	h := api.Header{Listed: true, Mods: []api.Mod{{Op: 1, A: 4}, {Op: 2, A: 5}}, Adapted: true, Marks: []api.Mod{{Op: 3, A: 6, B: 7}}}
	text := u.bits(h)
	r, _ := reader(text + text)
	l := u.store()
	first, _ := header.Read(r, 1, false, l)
	again := r.Copy()
	second, _ := header.Read(r, 1, false, l)
	first.Mods[0].A, first.Mods[1].A, first.Marks[0].B = 8, 9, 10
	third, _ := header.Read(again, 1, false, l)
	if !same(second, h) || !same(third, h) {
		t.Errorf("%+v and %+v; want %+v", second, third, h)
	}
}

func TestStore(t *testing.T) { // P10.2, R3, R6: the parameter sets are those that the store has now, and it keeps them
	x := numbers(15)
	l := sets.New()
	last := map[int]unit{}
	for range 800 {
		u := x.unit()
		u.s.ID, u.p.Sps = u.p.ID, u.p.ID
		l.PutSps(u.s)
		l.PutPps(u.p)
		last[u.p.ID] = u
		for id, v := range last {
			h := x.header(v)
			text := v.bits(h)
			r, at := reader(text + "10")
			if got, e := header.Read(r, v.ref, v.idr, l); !same(got, h) || e != api.OK || r.Pos() != at+len(text) {
				t.Fatalf("Read of %s: %+v, error %d; want %+v", text, got, e, h)
			}
			r, _ = reader(text[:x.below(len(text))])
			header.Read(r, v.ref, v.idr, l)
			if p, s, e := l.Get(id); p != v.p || s != v.s || e != api.OK {
				t.Fatalf("the store has %+v and %+v, error %d; want %+v", p, s, e, v)
			}
		}
	}
}

func TestSeveralHeaders(t *testing.T) { // P10.2, P10.3: one after another, with calls between them that return errors
	x := numbers(16)
	for range 500 {
		w := bits.Write()
		text := ""
		var units []unit
		var want []api.Header
		for range 5 {
			u := x.unit()
			h := x.header(u)
			broken := h
			broken.B = 7
			if e := u.put(w, broken); e == api.OK {
				t.Fatalf("Put(%+v) for %+v: no error", broken, u)
			}
			if e := u.put(w, h); e != api.OK {
				t.Fatalf("Put(%+v) for %+v: %d", h, u, e)
			}
			units, want, text = append(units, u), append(want, h), text+u.bits(h)
		}
		if w.Bits() != text {
			t.Fatalf("the bits %s; want %s", w.Bits(), text)
		}
		r := bits.Read(w.Bytes())
		for i, u := range units {
			if _, e := header.Read(r, u.ref, u.idr, sets.New()); e != api.ErrNone {
				t.Fatalf("Read for no parameter sets: %d", e)
			}
			if h, e := u.read(r); !same(h, want[i]) || e != api.OK {
				t.Fatalf("Read: %+v, error %d; want %+v", h, e, want[i])
			}
		}
	}
}
