package near_test

import (
	"math"
	"testing"

	"spindle/api"
	"spindle/mb"
	"spindle/near"
)

func TestExamples(t *testing.T) { // P14.1 to P14.3
	a, b, c := numbered(1), numbered(2), numbered(3)
	n := begin(t, 0, 2)
	l := &model{first: 0, width: 2}
	wantFound(t, n, l)
	add(t, n, a, b)
	m, is := n.Left()
	wantMb(t, "Left in the first column", m, is, api.Mb{}, false)
	m, is = n.Above()
	wantMb(t, "Above of the third one", m, is, a, true)
	m, is = n.Last()
	wantMb(t, "Last of two", m, is, b, true)
	if n.Next() != 2 {
		t.Errorf("Next %d, want 2", n.Next())
	}
	add(t, n, c)
	m, is = n.Left()
	wantMb(t, "Left of the fourth one", m, is, c, true)
	m, is = n.Above()
	wantMb(t, "Above of the fourth one", m, is, b, true)

	n = begin(t, 1, 2)
	add(t, n, a)
	if n.Next() != 2 {
		t.Errorf("Next %d, want 2", n.Next())
	}
	m, is = n.Left()
	wantMb(t, "Left of 2 of a slice from 1", m, is, api.Mb{}, false)
	m, is = n.Above()
	wantMb(t, "Above of 2 of a slice from 1", m, is, api.Mb{}, false)
}

func TestNew(t *testing.T) { // P14.1
	far := []int{math.MinInt, math.MinInt32, -8160, -1, 1 << 13, 1 << 32, 1<<32 + 1, math.MaxInt}
	firsts, widths := append([]int{8160, 8161}, far...), append([]int{0, 129, 130, 256}, far...)
	for _, first := range firsts {
		for _, width := range append([]int{1, 128}, widths...) {
			wantNoNear(t, first, width)
		}
	}
	for _, width := range widths {
		for _, first := range []int{0, 1, 8159} {
			wantNoNear(t, first, width)
		}
	}
	for width := 1; width <= 128; width++ {
		for _, first := range []int{0, 1, width, 4000, 8158, 8159} {
			wantAll(t, begin(t, first, width), &model{first: first, width: width})
		}
	}
	for first := range 8160 {
		if n := begin(t, first, 1); n.Next() != first {
			t.Fatalf("Next %d of a slice without macroblocks from %d", n.Next(), first)
		}
	}
}

func wantNoNear(t *testing.T, first, width int) {
	t.Helper()
	if n, e := near.New(first, width); n != nil || e != api.ErrRange {
		t.Errorf("New(%d, %d) = %v, error %d; want ErrRange", first, width, n, e)
	}
}

func TestFound(t *testing.T) { // P14.3, P14.5, P14.7
	for width := 1; width <= 7; width++ {
		for first := range 3*width + 1 {
			n, l := begin(t, first, width), &model{first: first, width: width}
			wantAll(t, n, l)
			for i := range 4 * width {
				m := numbered(i + 1)
				add(t, n, m)
				l.mbs = append(l.mbs, m)
				wantAll(t, n, l)
			}
		}
	}
}

func TestFoundInWidePictures(t *testing.T) { // P14.3, P14.5
	for _, width := range []int{8, 63, 64, 100, 127, 128} {
		for _, first := range []int{0, 1, width - 1, width, 8159 - 2*width} {
			n, l := begin(t, first, width), &model{first: first, width: width}
			for i := range 2*width + 1 {
				m := numbered(i + 1)
				add(t, n, m)
				l.mbs = append(l.mbs, m)
				wantFound(t, n, l)
			}
		}
	}
}

func TestNotThere(t *testing.T) { // P14.3: in the picture, but before the slice
	n := begin(t, 5, 4)
	add(t, n, numbered(1), numbered(2))
	m, is := n.Above()
	wantMb(t, "Above of 7", m, is, api.Mb{}, false)
	add(t, n, numbered(3))
	m, is = n.Left()
	wantMb(t, "Left of 8, in the first column", m, is, api.Mb{}, false)
	m, is = n.Above()
	wantMb(t, "Above of 8, for which 4 is not in the slice", m, is, api.Mb{}, false)
	m, is = n.Last()
	wantMb(t, "Last before 8", m, is, numbered(3), true)
	add(t, n, numbered(4))
	m, is = n.Above()
	wantMb(t, "Above of 9", m, is, numbered(1), true)
}

func TestOneColumn(t *testing.T) { // P14.3: nothing is ever to the left
	n := begin(t, 3, 1)
	for i := range 5 {
		add(t, n, numbered(i))
		m, is := n.Left()
		wantMb(t, "Left", m, is, api.Mb{}, false)
		m, is = n.Above()
		wantMb(t, "Above", m, is, numbered(i), true)
	}
}

func TestZeroMbIsThere(t *testing.T) { // P14.3: a macroblock without numbers is one
	n := begin(t, 1, 2)
	add(t, n, api.Mb{}, api.Mb{})
	m, is := n.Left()
	wantMb(t, "Left", m, is, api.Mb{}, true)
	m, is = n.Above()
	wantMb(t, "Above", m, is, api.Mb{}, true)
	m, is = n.Last()
	wantMb(t, "Last", m, is, api.Mb{}, true)
}

func TestAddAny(t *testing.T) { // P14.2, R1
	l := &model{first: 7, width: 3, mbs: odd()}
	wantAll(t, l.make(t), l)
	for _, m := range odd() {
		l = &model{first: 0, width: 1, mbs: []api.Mb{m}}
		wantAll(t, l.make(t), l)
	}
}

func TestFull(t *testing.T) { // P14.2, R5: ErrLong leaves everything as it is
	for _, first := range []int{8159, 8158, 8100} {
		n, l := begin(t, first, 2), &model{first: first, width: 2}
		for i := first; i < 8160; i++ {
			add(t, n, numbered(i))
			l.mbs = append(l.mbs, numbered(i))
		}
		for _, m := range append(odd(), numbered(5)) {
			if e := n.Add(m); e != api.ErrLong {
				t.Fatalf("Add at %d: error %d, want ErrLong", n.Next(), e)
			}
		}
		if e := n.Copy().Add(api.Mb{}); e != api.ErrLong {
			t.Errorf("Add to a copy at %d: error %d, want ErrLong", n.Next(), e)
		}
		wantAll(t, n, l)
	}
}

func TestWholePicture(t *testing.T) { // P14.2, P14.5, P14.7: as many as a picture can have
	n := begin(t, 0, 120)
	for i := range 8160 {
		if n.Next() != i {
			t.Fatalf("Next %d after %d macroblocks", n.Next(), i)
		}
		m, is := n.Left()
		if is != (i%120 != 0) || is && m.Qp != i-1 {
			t.Fatalf("Left of %d: %d, %v", i, m.Qp, is)
		}
		m, is = n.Above()
		if is != (i >= 120) || is && m.Qp != i-120 {
			t.Fatalf("Above of %d: %d, %v", i, m.Qp, is)
		}
		m, is = n.Last()
		if is != (i > 0) || is && m.Qp != i-1 {
			t.Fatalf("Last before %d: %d, %v", i, m.Qp, is)
		}
		add(t, n, api.Mb{Qp: i})
	}
	if e := n.Add(api.Mb{}); e != api.ErrLong || n.Next() != 8160 || len(n.Mbs()) != 8160 {
		t.Errorf("Add after all: error %d, then Next %d and %d macroblocks", e, n.Next(), len(n.Mbs()))
	}
}

func TestNil(t *testing.T) { // P14.2 to P14.4, R5
	var n *near.Near
	if e := n.Add(api.Mb{}); e != api.ErrNil {
		t.Errorf("Add to nil: error %d, want ErrNil", e)
	}
	if n.Next() != 0 || len(n.Mbs()) != 0 || n.Copy() != nil {
		t.Errorf("Next %d, Mbs %v, Copy %v of nil", n.Next(), n.Mbs(), n.Copy())
	}
	m, is := n.Left()
	wantMb(t, "Left of nil", m, is, api.Mb{}, false)
	m, is = n.Above()
	wantMb(t, "Above of nil", m, is, api.Mb{}, false)
	m, is = n.Last()
	wantMb(t, "Last of nil", m, is, api.Mb{}, false)
}

func TestAddCopies(t *testing.T) { // R3: neither changed nor kept
	l := &model{first: 2, width: 3, mbs: []api.Mb{numbered(1), numbered(2), numbered(3), numbered(4)}}
	n := begin(t, 2, 3)
	for i := range 4 {
		m := numbered(i + 1)
		add(t, n, m)
		wantMb(t, "the argument after Add", m, true, numbered(i+1), true)
		spoil(m)
	}
	wantAll(t, n, l)
}

func TestResultsAreCopies(t *testing.T) { // R3: changing what was returned changes nothing
	l := &model{first: 2, width: 3, mbs: []api.Mb{numbered(1), numbered(2), numbered(3)}}
	n := l.make(t)
	for _, f := range []func() (api.Mb, bool){n.Left, n.Above, n.Last} {
		m, is := f()
		if !is {
			t.Fatal("not there")
		}
		spoil(m)
		wantAll(t, n, l)
	}
	mbs := n.Mbs()
	for i, m := range mbs {
		spoil(m)
		for _, other := range mbs[i+1:] {
			wantMb(t, "another one of Mbs", other, true, numbered(other.Qp), true)
		}
	}
	_ = append(mbs, api.Mb{Kind: 99})
	clear(mbs)
	wantAll(t, n, l)
}

func TestSameTwice(t *testing.T) { // R3: one macroblock that is added twice is two
	m := numbered(1)
	n := begin(t, 0, 1)
	add(t, n, m, m)
	mbs := n.Mbs()
	spoil(mbs[0])
	wantMb(t, "the other one", mbs[1], true, numbered(1), true)
}

func TestCopy(t *testing.T) { // P14.4
	for size := range 9 {
		l := &model{first: 4, width: 3}
		for i := range size {
			l.mbs = append(l.mbs, numbered(i))
		}
		n := l.make(t)
		c := n.Copy()
		wantAll(t, c, l)
		more := &model{first: 4, width: 3, mbs: append(append([]api.Mb{}, l.mbs...), numbered(50), numbered(51))}
		add(t, c, numbered(50), numbered(51))
		wantAll(t, n, l)
		wantAll(t, c, more)
		other := &model{first: 4, width: 3, mbs: append(append([]api.Mb{}, l.mbs...), numbered(60))}
		add(t, n, numbered(60))
		wantAll(t, n, other)
		wantAll(t, c, more)
		for _, m := range c.Mbs() {
			spoil(m)
		}
		wantAll(t, n, other)
		wantAll(t, c, more)
	}
}

func TestCopiesGrowApart(t *testing.T) { // P14.4: also where there is room behind the macroblocks
	n := begin(t, 0, 128)
	l := &model{first: 0, width: 128}
	for i := range 40 {
		add(t, n, numbered(i))
		l.mbs = append(l.mbs, numbered(i))
		a, b := n.Copy(), n.Copy()
		add(t, a, numbered(1000))
		add(t, b, numbered(2000))
		m, _ := a.Last()
		wantMb(t, "Last of one copy", m, true, numbered(1000), true)
		m, _ = b.Last()
		wantMb(t, "Last of the other copy", m, true, numbered(2000), true)
		wantFound(t, n, l)
	}
}

func TestFewMatter(t *testing.T) { // P14.6
	const first, width, size = 2, 4, 11
	l := &model{first: first, width: width}
	for i := range size {
		l.mbs = append(l.mbs, numbered(i))
	}
	for i := range size {
		changed := &model{first: first, width: width, mbs: append([]api.Mb{}, l.mbs...)}
		changed.mbs[i] = numbered(77)
		n := changed.make(t)
		wantFound(t, n, changed)
		if i != size-1 && i != size-width {
			wantFound(t, n, l)
		}
	}
}

func TestNothingIsRemembered(t *testing.T) { // R6: asking changes nothing
	l := &model{first: 3, width: 2, mbs: []api.Mb{numbered(1), numbered(2), numbered(3)}}
	n := l.make(t)
	for range 3 {
		wantAll(t, n, l)
		if c := n.Copy(); !mb.Equal(c.Mbs()[1], numbered(2)) {
			t.Error("a copy has another macroblock")
		}
	}
}
