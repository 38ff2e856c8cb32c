package kinds_test

import (
	"math"
	"reflect"
	"testing"

	"spindle/api"
	"spindle/kinds"
	"spindle/place"
)

// part is a rectangle of luma blocks in a partition.
type part struct {
	partition, x, y, width, height int
}

// shapes are the rectangles into which a square is divided, in halves of its side: by Sub, and by the kinds from MbP1 on.
func shapes(n uint8) [][4]int {
	switch n {
	case 0:
		return [][4]int{{0, 0, 2, 2}}
	case 1:
		return [][4]int{{0, 0, 2, 1}, {0, 1, 2, 1}}
	case 2:
		return [][4]int{{0, 0, 1, 2}, {1, 0, 1, 2}}
	}
	return [][4]int{{0, 0, 1, 1}, {1, 0, 1, 1}, {0, 1, 1, 1}, {1, 1, 1, 1}}
}

// parts are the parts of an inter macroblock by the chapter's definition, as rectangles.
func parts(kind uint8, sub [4]uint8) []part {
	var l []part
	for i, p := range shapes(kind - api.MbP1) {
		if kind != api.MbP4 {
			l = append(l, part{i, 2 * p[0], 2 * p[1], 2 * p[2], 2 * p[3]})
			continue
		}
		for _, q := range shapes(sub[i]) {
			l = append(l, part{i, 2*p[0] + q[0], 2*p[1] + q[1], q[2], q[3]})
		}
	}
	return l
}

// blocks are the luma blocks of a rectangle, in ascending order.
func (p part) blocks() []int {
	var l []int
	for k := range 16 {
		if x, y, _ := place.At(k); x >= p.x && x < p.x+p.width && y >= p.y && y < p.y+p.height {
			l = append(l, k)
		}
	}
	return l
}

// subs yields all Subs with numbers from 0 to most.
func subs(most uint8, yield func(sub [4]uint8)) {
	var sub [4]uint8
	for {
		yield(sub)
		i := 0
		for i < 4 && sub[i] == most {
			sub[i] = 0
			i++
		}
		if i == 4 {
			return
		}
		sub[i]++
	}
}

// inter yields all kinds that have parts with all Subs that are valid.
func inter(yield func(kind uint8, sub [4]uint8)) {
	for kind := api.MbP1; kind <= api.MbP4; kind++ {
		subs(3, func(sub [4]uint8) { yield(kind, sub) })
	}
}

// outside returns numbers that are not from 0 to n - 1.
func outside(n int) []int {
	l := []int{math.MinInt, math.MinInt + 1, math.MinInt + 4, math.MinInt + 5, math.MinInt32, math.MaxInt32, math.MaxInt - 1, math.MaxInt}
	for i := range 600 {
		l = append(l, -1-i, n+i)
	}
	return l
}

// filled is a macroblock whose fields are all set, with numbers that no macroblock has.
func filled(kind uint8) api.Mb {
	m := api.Mb{
		Kind: kind, Mode: 255, Chroma: 255, Cbp: 255, Qp: -99, Sub: [4]uint8{9, 8, 7, 255}, Pcm: "pcm",
		Refs: []int{math.MinInt}, Mvds: []api.Vec{{X: math.MaxInt}}, Blocks: [][]int{nil, {1, math.MaxInt}},
	}
	for i := range m.Preds {
		m.Preds[i] = 255
	}
	return m
}

func wantType(t *testing.T, m api.Mb, intra bool, want int, err api.Errno) {
	t.Helper()
	if n, e := kinds.Type(m, intra); n != want || e != err {
		t.Errorf("Type(kind %d, Mode %d, Cbp %d, %v) = %d, error %d; want %d, %d", m.Kind, m.Mode, m.Cbp, intra, n, e, want, err)
	}
}

func wantOf(t *testing.T, n int, intra bool, want api.Mb, err api.Errno) {
	t.Helper()
	if m, e := kinds.Of(n, intra); !reflect.DeepEqual(m, want) || e != err {
		t.Errorf("Of(%d, %v) = %v, error %d; want %v, %d", n, intra, m, e, want, err)
	}
}

func wantPieces(t *testing.T, kind uint8, sub [4]uint8, want int, err api.Errno) {
	t.Helper()
	if n, e := kinds.Pieces(kind, sub); n != want || e != err {
		t.Errorf("Pieces(%d, %v) = %d, error %d; want %d, %d", kind, sub, n, e, want, err)
	}
}

func wantCover(t *testing.T, kind uint8, sub [4]uint8, part int, want ...int) {
	t.Helper()
	if l, e := kinds.Cover(kind, sub, part); !reflect.DeepEqual(l, want) || e != api.OK {
		t.Errorf("Cover(%d, %v, %d) = %v, error %d; want %v", kind, sub, part, l, e, want)
	}
}

func wantPart(t *testing.T, kind uint8, sub [4]uint8, part, want int) {
	t.Helper()
	if n, e := kinds.Part(kind, sub, part); n != want || e != api.OK {
		t.Errorf("Part(%d, %v, %d) = %d, error %d; want %d", kind, sub, part, n, e, want)
	}
}

// wantNoPart wants the same error of Cover and Part.
func wantNoPart(t *testing.T, kind uint8, sub [4]uint8, part int, err api.Errno) {
	t.Helper()
	if l, e := kinds.Cover(kind, sub, part); len(l) != 0 || e != err {
		t.Errorf("Cover(%d, %v, %d) = %v, error %d; want error %d", kind, sub, part, l, e, err)
	}
	if n, e := kinds.Part(kind, sub, part); n != 0 || e != err {
		t.Errorf("Part(%d, %v, %d) = %d, error %d; want error %d", kind, sub, part, n, e, err)
	}
}

func TestExamples(t *testing.T) { // P12.2 to P12.5
	x := api.Mb{Kind: api.Mb16, Mode: 2, Cbp: 47}
	wantType(t, api.Mb{Kind: api.MbN}, true, 0, api.OK)
	wantType(t, api.Mb{Kind: api.MbPcm}, true, 25, api.OK)
	wantType(t, x, true, 23, api.OK)
	wantType(t, api.Mb{Kind: api.MbN}, false, 5, api.OK)
	wantType(t, api.Mb{Kind: api.MbPcm}, false, 30, api.OK)
	wantType(t, x, false, 28, api.OK)
	wantType(t, api.Mb{Kind: api.MbP4}, false, 3, api.OK)
	wantType(t, api.Mb{Kind: api.MbSkip}, false, 0, api.ErrKind)
	wantType(t, api.Mb{Kind: api.MbP1}, true, 0, api.ErrKind)
	wantType(t, api.Mb{Kind: api.Mb16, Cbp: 1}, true, 0, api.ErrRange)
	wantOf(t, 14, true, api.Mb{Kind: api.Mb16, Mode: 1, Cbp: 15}, api.OK)
	wantOf(t, 4, false, api.Mb{}, api.ErrRange)
	wantOf(t, 31, false, api.Mb{}, api.ErrRange)
	wantOf(t, 26, true, api.Mb{}, api.ErrRange)
	sub := [4]uint8{0, 1, 2, 3}
	wantPieces(t, api.MbP4, sub, 9, api.OK)
	wantPieces(t, api.MbP2, [4]uint8{9, 9, 9, 9}, 2, api.OK)
	wantPieces(t, api.MbN, [4]uint8{}, 0, api.ErrKind)
	wantCover(t, api.MbP3, sub, 0, 0, 1, 2, 3, 8, 9, 10, 11)
	wantCover(t, api.MbP4, sub, 1, 4, 5)
	wantCover(t, api.MbP4, sub, 4, 9, 11)
	wantPart(t, api.MbP4, sub, 4, 2)
	wantNoPart(t, api.MbP4, sub, 9, api.ErrRange)
}

func TestIntra(t *testing.T) { // P12.1
	for kind := range 256 {
		want := kind == 0 || kind == 1 || kind == 2
		if got := kinds.Intra(uint8(kind)); got != want {
			t.Errorf("Intra(%d) = %v", kind, got)
		}
	}
}

func TestType(t *testing.T) { // P12.2
	for kind := range 256 {
		m := filled(uint8(kind))
		switch m.Kind {
		case api.MbN:
			wantType(t, m, true, 0, api.OK)
			wantType(t, m, false, 5, api.OK)
		case api.MbPcm:
			wantType(t, m, true, 25, api.OK)
			wantType(t, m, false, 30, api.OK)
		case api.Mb16: // its Mode and Cbp matter: TestTypeMb16
			wantType(t, m, true, 0, api.ErrRange)
			wantType(t, m, false, 0, api.ErrRange)
		case api.MbP1, api.MbP2, api.MbP3, api.MbP4:
			wantType(t, m, true, 0, api.ErrKind)
			wantType(t, m, false, kind-3, api.OK)
		default:
			wantType(t, m, true, 0, api.ErrKind)
			wantType(t, m, false, 0, api.ErrKind)
		}
	}
}

func TestTypeMb16(t *testing.T) { // P12.2
	m := filled(api.Mb16)
	for mode := range 256 {
		for cbp := range 256 {
			m.Mode, m.Cbp = uint8(mode), uint8(cbp)
			chroma, rest := cbp/16, cbp%16
			if mode > 3 || chroma > 2 || rest != 0 && rest != 15 {
				wantType(t, m, true, 0, api.ErrRange)
				wantType(t, m, false, 0, api.ErrRange)
				continue
			}
			n := 1 + mode + 4*chroma
			if rest == 15 {
				n += 12
			}
			wantType(t, m, true, n, api.OK)
			wantType(t, m, false, n+5, api.OK)
		}
	}
}

func TestTypeKeepsArguments(t *testing.T) { // R3
	for kind := range 256 {
		m := filled(uint8(kind))
		kinds.Type(m, false)
		kinds.Type(m, true)
		if !reflect.DeepEqual(m, filled(uint8(kind))) {
			t.Errorf("Type of kind %d modifies its argument", kind)
		}
	}
}

// intraMbs are the macroblocks of the types in slices of kind I.
func intraMbs() []api.Mb {
	l := []api.Mb{{Kind: api.MbN}}
	for _, cbp := range []uint8{0, 16, 32, 15, 31, 47} {
		for mode := range uint8(4) {
			l = append(l, api.Mb{Kind: api.Mb16, Mode: mode, Cbp: cbp})
		}
	}
	return append(l, api.Mb{Kind: api.MbPcm})
}

func TestOf(t *testing.T) { // P12.3
	l := intraMbs()
	if len(l) != 26 {
		t.Fatalf("%d macroblocks of kind I", len(l))
	}
	for n, m := range l {
		wantOf(t, n, true, m, api.OK)
		wantOf(t, n+5, false, m, api.OK)
	}
	for n, kind := range []uint8{api.MbP1, api.MbP2, api.MbP3, api.MbP4} {
		wantOf(t, n, false, api.Mb{Kind: kind}, api.OK)
	}
	wantOf(t, 4, false, api.Mb{}, api.ErrRange)
	for _, n := range outside(26) {
		wantOf(t, n, true, api.Mb{}, api.ErrRange)
	}
	for _, n := range outside(31) {
		wantOf(t, n, false, api.Mb{}, api.ErrRange)
	}
}

func TestTypesAreInverse(t *testing.T) { // P12.6
	for _, intra := range []bool{true, false} {
		count := 0
		for n := -100; n < 400; n++ {
			m, e := kinds.Of(n, intra)
			if e != api.OK {
				continue
			}
			count++
			wantType(t, m, intra, n, api.OK)
		}
		if want := map[bool]int{true: 26, false: 30}[intra]; count != want {
			t.Errorf("%d types if intra is %v, want %d", count, intra, want)
		}
		for kind := range uint8(8) {
			for mode := range uint8(4) {
				for cbp := range uint8(48) {
					m := api.Mb{Kind: kind}
					if kind == api.Mb16 {
						m.Mode, m.Cbp = mode, cbp
					}
					if n, e := kinds.Type(m, intra); e == api.OK {
						wantOf(t, n, intra, m, api.OK)
					}
				}
			}
		}
	}
}

func TestParts(t *testing.T) { // P12.4
	counts := map[int]int{3: 1, 4: 2, 5: 2, 6: 4}
	for kind := range 256 {
		if n := kinds.Parts(uint8(kind)); n != counts[kind] {
			t.Errorf("Parts(%d) = %d, want %d", kind, n, counts[kind])
		}
	}
}

func TestPieces(t *testing.T) { // P12.4
	inter(func(kind uint8, sub [4]uint8) {
		wantPieces(t, kind, sub, len(parts(kind, sub)), api.OK)
	})
	wantPieces(t, api.MbP4, [4]uint8{}, 4, api.OK)
	wantPieces(t, api.MbP4, [4]uint8{3, 3, 3, 3}, 16, api.OK)
}

func TestPiecesOfOtherKinds(t *testing.T) { // P12.4, P12.5
	for kind := range 256 {
		if kind >= 3 && kind <= 6 {
			continue
		}
		for _, sub := range [][4]uint8{{}, {0, 1, 2, 3}, {9, 9, 9, 9}} {
			wantPieces(t, uint8(kind), sub, 0, api.ErrKind)
			for part := -2; part < 20; part++ {
				wantNoPart(t, uint8(kind), sub, part, api.ErrKind)
			}
		}
	}
}

func TestSubOutside(t *testing.T) { // P12.4, P12.5
	for i := range 4 {
		for n := 4; n < 256; n++ {
			sub := [4]uint8{3, 1, 0, 2}
			sub[i] = uint8(n)
			wantPieces(t, api.MbP1, sub, 1, api.OK)
			wantPieces(t, api.MbP2, sub, 2, api.OK)
			wantPieces(t, api.MbP3, sub, 2, api.OK)
			wantPieces(t, api.MbP4, sub, 0, api.ErrRange)
			for part := -1; part < 17; part++ {
				wantNoPart(t, api.MbP4, sub, part, api.ErrRange)
			}
			wantCover(t, api.MbP2, sub, 1, 8, 9, 10, 11, 12, 13, 14, 15)
			wantPart(t, api.MbP3, sub, 1, 1)
		}
	}
	subs(4, func(sub [4]uint8) {
		for _, n := range sub {
			if n == 4 {
				wantPieces(t, api.MbP4, sub, 0, api.ErrRange)
				return
			}
		}
	})
}

func TestCoverAndPart(t *testing.T) { // P12.5
	inter(func(kind uint8, sub [4]uint8) {
		for i, p := range parts(kind, sub) {
			wantCover(t, kind, sub, i, p.blocks()...)
			wantPart(t, kind, sub, i, p.partition)
		}
	})
}

func TestNoPart(t *testing.T) { // P12.5, R1
	inter(func(kind uint8, sub [4]uint8) {
		n := len(parts(kind, sub))
		for _, part := range []int{math.MinInt, math.MinInt32, -2, -1, n, n + 1, n + 15, math.MaxInt32, math.MaxInt} {
			wantNoPart(t, kind, sub, part, api.ErrRange)
		}
	})
	for _, part := range outside(9) {
		wantNoPart(t, api.MbP4, [4]uint8{0, 1, 2, 3}, part, api.ErrRange)
	}
}

func TestCoverIsIndependent(t *testing.T) { // R3
	inter(func(kind uint8, sub [4]uint8) {
		for i, p := range parts(kind, sub) {
			l, _ := kinds.Cover(kind, sub, i)
			l = l[:cap(l)]
			for j := range l {
				l[j] = -1
			}
			wantCover(t, kind, sub, i, p.blocks()...)
		}
	})
}

func TestPartsCoverAll(t *testing.T) { // P12.7
	inter(func(kind uint8, sub [4]uint8) {
		n, e := kinds.Pieces(kind, sub)
		if e != api.OK {
			t.Errorf("Pieces(%d, %v): error %d", kind, sub, e)
		}
		var times [16]int
		for part := range n {
			l, e := kinds.Cover(kind, sub, part)
			partition, f := kinds.Part(kind, sub, part)
			if e != api.OK || f != api.OK {
				t.Errorf("part %d of kind %d, sub %v: errors %d, %d", part, kind, sub, e, f)
			}
			for _, k := range l {
				times[k]++
				if kind == api.MbP4 && k/4 != partition {
					t.Errorf("part %d of sub %v has block %d, but is in quarter %d", part, sub, k, partition)
				}
			}
		}
		for k, count := range times {
			if count != 1 {
				t.Errorf("kind %d, sub %v: block %d is covered %d times", kind, sub, k, count)
			}
		}
	})
}

func TestPartsAreRectangles(t *testing.T) { // P12.8
	inter(func(kind uint8, sub [4]uint8) {
		n, _ := kinds.Pieces(kind, sub)
		last := 0
		for part := range n {
			l, _ := kinds.Cover(kind, sub, part)
			wantRectangle(t, l)
			partition, _ := kinds.Part(kind, sub, part)
			if partition < last || partition >= kinds.Parts(kind) {
				t.Errorf("kind %d, sub %v: part %d is in partition %d, the one before in %d", kind, sub, part, partition, last)
			}
			last = partition
		}
		if last != kinds.Parts(kind)-1 {
			t.Errorf("kind %d, sub %v: the last part is in partition %d", kind, sub, last)
		}
	})
}

// wantRectangle wants different blocks that fill the smallest rectangle around them.
func wantRectangle(t *testing.T, l []int) {
	t.Helper()
	if len(l) == 0 {
		t.Errorf("a part has no blocks")
		return
	}
	left, right, top, bottom := 3, 0, 3, 0
	for i, k := range l {
		x, y, e := place.At(k)
		if e != api.OK || i > 0 && k <= l[i-1] {
			t.Errorf("block %d in %v", k, l)
		}
		left, right, top, bottom = min(left, x), max(right, x), min(top, y), max(bottom, y)
	}
	if (right-left+1)*(bottom-top+1) != len(l) {
		t.Errorf("%v is no rectangle", l)
	}
}
