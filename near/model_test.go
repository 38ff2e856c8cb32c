package near_test

import (
	"math"
	"testing"

	"spindle/api"
	"spindle/mb"
	"spindle/near"
)

// numbered is a macroblock that differs from those with other numbers in all its lists; it has the form of no valid one.
func numbered(i int) api.Mb {
	return api.Mb{
		Kind: uint8(i), Qp: i, Preds: [16]uint8{5: uint8(i)}, Sub: [4]uint8{3: uint8(i)}, Pcm: string(rune('a' + i%26)),
		Refs: []int{i, -i}, Mvds: []api.Vec{{X: i, Y: 1}, {X: 2, Y: i}}, Blocks: [][]int{{i, i + 1}, {}, {7, 8, i}},
	}
}

// spoil changes all elements of the lists of a macroblock.
func spoil(m api.Mb) {
	for i := range m.Refs {
		m.Refs[i] += 1000
	}
	for i := range m.Mvds {
		m.Mvds[i].X += 1000
		m.Mvds[i].Y -= 1000
	}
	for i, b := range m.Blocks {
		for j := range b {
			b[j] += 1000
		}
		_ = append(b, 1000)
		m.Blocks[i] = []int{1000}
	}
}

// odd are macroblocks that are not valid.
func odd() []api.Mb {
	return []api.Mb{
		{},
		{Kind: 255, Mode: 255, Chroma: 255, Cbp: 255, Qp: math.MinInt, Sub: [4]uint8{255, 4, 5, 6}},
		{Kind: api.MbPcm, Pcm: "short"},
		{Kind: api.MbSkip, Refs: []int{math.MaxInt}, Mvds: make([]api.Vec, 17), Blocks: [][]int{nil, {1}, {math.MinInt, 0}}},
		{Kind: api.MbP4, Sub: [4]uint8{9, 9, 9, 9}, Refs: []int{-1}},
		{Refs: []int{}, Mvds: []api.Vec{}, Blocks: [][]int{}},
	}
}

// model is the macroblocks of a slice, of which the one i is in the column and the row that its address says.
type model struct {
	first, width int
	mbs          []api.Mb
}

// place is the column and the row of an address, counted from the first one of the picture.
func (l *model) place(address int) (column, row int) {
	for address >= l.width {
		address -= l.width
		row++
	}
	return address, row
}

// in returns the macroblock in a column and a row.
func (l *model) in(column, row int) (api.Mb, bool) {
	if column < 0 || row < 0 {
		return api.Mb{}, false
	}
	for i, m := range l.mbs {
		if l.first+i == row*l.width+column {
			return m, true
		}
	}
	return api.Mb{}, false
}

func (l *model) next() int {
	return l.first + len(l.mbs)
}

func (l *model) left() (api.Mb, bool) {
	column, row := l.place(l.next())
	return l.in(column-1, row)
}

func (l *model) above() (api.Mb, bool) {
	column, row := l.place(l.next())
	return l.in(column, row-1)
}

func (l *model) last() (api.Mb, bool) {
	if len(l.mbs) == 0 {
		return api.Mb{}, false
	}
	return l.mbs[len(l.mbs)-1], true
}

// make returns an object with the macroblocks of the model.
func (l *model) make(t *testing.T) *near.Near {
	t.Helper()
	n := begin(t, l.first, l.width)
	for _, m := range l.mbs {
		add(t, n, m)
	}
	return n
}

func begin(t *testing.T, first, width int) *near.Near {
	t.Helper()
	n, e := near.New(first, width)
	if n == nil || e != api.OK {
		t.Fatalf("New(%d, %d) = %v, error %d; want an object", first, width, n, e)
	}
	return n
}

func add(t *testing.T, n *near.Near, l ...api.Mb) {
	t.Helper()
	for _, m := range l {
		if e := n.Add(m); e != api.OK {
			t.Fatalf("Add at %d: error %d", n.Next(), e)
		}
	}
}

func wantMb(t *testing.T, name string, m api.Mb, is bool, want api.Mb, there bool) {
	t.Helper()
	if is != there || !mb.Equal(m, want) {
		t.Fatalf("%s: %v, %v; want %v, %v", name, m, is, want, there)
	}
}

// wantFound checks what is found nearby.
func wantFound(t *testing.T, n *near.Near, l *model) {
	t.Helper()
	if n.Next() != l.next() {
		t.Fatalf("Next %d, want %d", n.Next(), l.next())
	}
	m, is := n.Left()
	want, there := l.left()
	wantMb(t, "Left", m, is, want, there)
	m, is = n.Above()
	want, there = l.above()
	wantMb(t, "Above", m, is, want, there)
	m, is = n.Last()
	want, there = l.last()
	wantMb(t, "Last", m, is, want, there)
}

// wantAll checks all that can be seen of an object.
func wantAll(t *testing.T, n *near.Near, l *model) {
	t.Helper()
	wantFound(t, n, l)
	mbs := n.Mbs()
	if len(mbs) != len(l.mbs) {
		t.Fatalf("%d macroblocks, want %d", len(mbs), len(l.mbs))
	}
	for i, m := range mbs {
		wantMb(t, "Mbs", m, true, l.mbs[i], true)
	}
}
