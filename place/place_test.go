package place_test

import (
	"math"
	"testing"

	"spindle/api"
	"spindle/place"
)

// step is Left, Above, ChLeft or ChAbove.
type step func(int) (int, bool, api.Errno)

// kind is the luma blocks or the chroma blocks of a component.
type kind struct {
	name        string
	side        int
	left, above step
	at          func(k int) (x, y int) // the chapter's definition
}

func kinds() []kind {
	return []kind{
		{"luma", 4, place.Left, place.Above, lumaAt},
		{"chroma", 2, place.ChLeft, place.ChAbove, func(k int) (x, y int) { return k % 2, k / 2 }},
	}
}

func lumaAt(k int) (x, y int) {
	return k%2 + 2*(k/4%2), k/2%2 + 2*(k/8)
}

func (b kind) blocks() int { return b.side * b.side }

// find looks for the block whose place is asked for, and that is given in blocks from the upper left corner of the macroblock.
// A place before the macroblock is in the one to the left or above, in which the same places are one side further.
func (b kind) find(x, y int) (k int, inside bool) {
	inside = x >= 0 && y >= 0
	for k := range b.blocks() {
		if c, r := b.at(k); (c-x)%b.side == 0 && (r-y)%b.side == 0 {
			return k, inside
		}
	}
	return -1, inside
}

// outside returns numbers that are not from 0 to n - 1.
func outside(n int) []int {
	l := []int{math.MinInt, math.MinInt + 1, math.MinInt32, math.MaxInt32, math.MaxInt32 + 1, math.MaxInt - 1, math.MaxInt}
	for i := range 300 {
		l = append(l, -1-i, n+i)
	}
	return l
}

func wantStep(t *testing.T, name string, f step, k, want int, inside bool, err api.Errno) {
	t.Helper()
	if n, same, e := f(k); n != want || same != inside || e != err {
		t.Errorf("%s(%d) = %d, %v, error %d; want %d, %v, %d", name, k, n, same, e, want, inside, err)
	}
}

func wantNear(t *testing.T, addr, first, width, left, above int, err api.Errno) {
	t.Helper()
	if l, a, e := place.Near(addr, first, width); l != left || a != above || e != err {
		t.Fatalf("Near(%d, %d, %d) = %d, %d, error %d; want %d, %d, %d", addr, first, width, l, a, e, left, above, err)
	}
}

func TestExamples(t *testing.T) { // P11.1 to P11.3
	for _, c := range []struct {
		k, x, y int
		err     api.Errno
	}{{0, 0, 0, api.OK}, {3, 1, 1, api.OK}, {6, 2, 1, api.OK}, {13, 3, 2, api.OK}, {16, 0, 0, api.ErrRange}} {
		if x, y, e := place.At(c.k); x != c.x || y != c.y || e != c.err {
			t.Errorf("At(%d) = %d, %d, error %d; want %d, %d, %d", c.k, x, y, e, c.x, c.y, c.err)
		}
	}
	if k, e := place.Block(2, 1); k != 6 || e != api.OK {
		t.Errorf("Block(2, 1) = %d, error %d", k, e)
	}
	if k, e := place.Block(4, 0); k != 0 || e != api.ErrRange {
		t.Errorf("Block(4, 0) = %d, error %d", k, e)
	}
	wantStep(t, "Left", place.Left, 1, 0, true, api.OK)
	wantStep(t, "Left", place.Left, 0, 5, false, api.OK)
	wantStep(t, "Left", place.Left, 6, 3, true, api.OK)
	wantStep(t, "Above", place.Above, 8, 2, true, api.OK)
	wantStep(t, "Above", place.Above, 5, 15, false, api.OK)
	wantStep(t, "ChLeft", place.ChLeft, 1, 0, true, api.OK)
	wantStep(t, "ChLeft", place.ChLeft, 2, 3, false, api.OK)
	wantStep(t, "ChAbove", place.ChAbove, 1, 3, false, api.OK)
	wantStep(t, "ChAbove", place.ChAbove, 3, 1, true, api.OK)
}

func TestAtAndBlock(t *testing.T) { // P11.1, P11.5
	for k := range 16 {
		wantX, wantY := lumaAt(k)
		x, y, e := place.At(k)
		if x != wantX || y != wantY || e != api.OK {
			t.Errorf("At(%d) = %d, %d, error %d; want %d, %d", k, x, y, e, wantX, wantY)
		}
		if n, e := place.Block(x, y); n != k || e != api.OK {
			t.Errorf("Block(%d, %d) = %d, error %d; want %d", x, y, n, e, k)
		}
	}
	seen := map[int]bool{}
	for x := range 4 {
		for y := range 4 {
			k, e := place.Block(x, y)
			if e != api.OK || seen[k] {
				t.Errorf("Block(%d, %d) = %d, error %d", x, y, k, e)
			}
			seen[k] = true
			if c, r, e := place.At(k); c != x || r != y || e != api.OK {
				t.Errorf("At(%d) = %d, %d, error %d; want %d, %d", k, c, r, e, x, y)
			}
		}
	}
}

func TestAtAndBlockOutside(t *testing.T) { // P11.1, R1
	for _, k := range outside(16) {
		if x, y, e := place.At(k); x != 0 || y != 0 || e != api.ErrRange {
			t.Errorf("At(%d) = %d, %d, error %d", k, x, y, e)
		}
	}
	wantNone := func(x, y int) {
		if k, e := place.Block(x, y); k != 0 || e != api.ErrRange {
			t.Errorf("Block(%d, %d) = %d, error %d", x, y, k, e)
		}
	}
	for _, n := range outside(4) {
		for m := range 4 {
			wantNone(n, m)
			wantNone(m, n)
		}
		for _, m := range outside(4) {
			wantNone(n, m)
		}
	}
}

func TestSteps(t *testing.T) { // P11.2, P11.3
	for _, b := range kinds() {
		for k := range b.blocks() {
			x, y := b.at(k)
			n, inside := b.find(x-1, y)
			wantStep(t, b.name+" left", b.left, k, n, inside, api.OK)
			n, inside = b.find(x, y-1)
			wantStep(t, b.name+" above", b.above, k, n, inside, api.OK)
		}
		for _, k := range outside(b.blocks()) {
			wantStep(t, b.name+" left", b.left, k, 0, false, api.ErrRange)
			wantStep(t, b.name+" above", b.above, k, 0, false, api.ErrRange)
		}
	}
}

func TestStepsMapBlocks(t *testing.T) { // P11.5
	for _, b := range kinds() {
		for _, f := range []step{b.left, b.above} {
			seen := map[int]bool{}
			for k := range b.blocks() {
				n, _, e := f(k)
				if e != api.OK || n < 0 || n >= b.blocks() || n == k || seen[n] {
					t.Errorf("%s: a step from %d leads to %d, error %d", b.name, k, n, e)
				}
				seen[n] = true
			}
		}
		for k := range b.blocks() {
			l, _, _ := b.left(k)
			la, _, _ := b.above(l)
			a, _, _ := b.above(k)
			al, _, _ := b.left(a)
			if la != al {
				t.Errorf("%s: from %d left and above lead to %d, above and left to %d", b.name, k, la, al)
			}
		}
	}
}

func TestStepsAround(t *testing.T) { // P11.6
	for _, b := range kinds() {
		for _, f := range []step{b.left, b.above} {
			for k := range b.blocks() {
				n, leaves := k, 0
				for i := range b.side {
					if i > 0 && n == k {
						t.Errorf("%s: %d steps from %d lead back", b.name, i, k)
					}
					next, inside, e := f(n)
					if e != api.OK {
						t.Fatalf("%s: a step from %d: error %d", b.name, n, e)
					}
					if !inside {
						leaves++
					}
					n = next
				}
				if n != k || leaves != 1 {
					t.Errorf("%s: %d steps from %d lead to %d, and leave the macroblock %d times", b.name, b.side, k, n, leaves)
				}
			}
		}
	}
}

// nearby is the chapter's definition, spelt apart from the package: in columns and rows of the picture.
func nearby(addr, first, width int) (left, above int) {
	inSlice := func(x, y int) int {
		if a := y*width + x; x >= 0 && y >= 0 && a >= first {
			return a
		}
		return -1
	}
	x, y := addr%width, addr/width
	return inSlice(x-1, y), inSlice(x, y-1)
}

// addresses yields addresses of macroblocks with the first ones of their slices: all small ones, and those around rows and at the limit.
func addresses(width int, yield func(addr, first int)) {
	const small = 150
	for first := range small {
		for addr := first; addr < small; addr++ {
			yield(addr, first)
		}
	}
	firsts := []int{0, 1, width - 1, width, width + 1, 2*width + 1, 4000, api.MaxMbs - 2*width - 1, api.MaxMbs - width - 1, api.MaxMbs - width, api.MaxMbs - 2, api.MaxMbs - 1}
	for _, first := range firsts {
		for addr := first; addr < min(first+2*width+2, api.MaxMbs); addr++ {
			yield(addr, first)
		}
		for addr := max(first, api.MaxMbs-2*width-2); addr < api.MaxMbs; addr++ {
			yield(addr, first)
		}
	}
}

func TestNearExamples(t *testing.T) { // P11.4
	wantNear(t, 5, 0, 4, 4, 1, api.OK)
	wantNear(t, 4, 0, 4, -1, 0, api.OK)
	wantNear(t, 5, 3, 4, 4, -1, api.OK)
	wantNear(t, 5, 5, 4, -1, -1, api.OK)
	wantNear(t, 2, 3, 4, 0, 0, api.ErrRange)
	wantNear(t, 0, 0, 1, -1, -1, api.OK)
	wantNear(t, 1, 0, 1, -1, 0, api.OK)
	wantNear(t, 1, 0, 2, 0, -1, api.OK)
	wantNear(t, 8159, 0, 128, 8158, 8031, api.OK)
	wantNear(t, 8159, 8159, 128, -1, -1, api.OK)
	wantNear(t, 8159, 8158, 128, 8158, -1, api.OK)
	wantNear(t, 8159, 8031, 128, 8158, 8031, api.OK)
	wantNear(t, 8159, 8032, 128, 8158, -1, api.OK)
}

func TestNear(t *testing.T) { // P11.4
	for width := 1; width <= api.MaxSide; width++ {
		addresses(width, func(addr, first int) {
			left, above := nearby(addr, first, width)
			wantNear(t, addr, first, width, left, above, api.OK)
		})
	}
}

func TestNearOutside(t *testing.T) { // P11.4, R1
	wantNone := func(addr, first, width int) {
		t.Helper()
		wantNear(t, addr, first, width, 0, 0, api.ErrRange)
	}
	for _, n := range outside(api.MaxMbs) {
		for _, width := range []int{1, 4, 11, api.MaxSide} {
			for _, m := range []int{0, 1, 4, api.MaxMbs - 1} {
				wantNone(n, m, width)
				wantNone(m, n, width)
			}
			for _, m := range outside(api.MaxMbs) {
				wantNone(n, m, width)
			}
		}
	}
	for _, n := range outside(api.MaxSide) {
		for _, addr := range []int{0, 1, 5, api.MaxMbs - 1} {
			if n != api.MaxSide {
				wantNone(addr, 0, n)
				wantNone(addr, addr, n)
			}
		}
	}
	wantNone(5, 0, 0)
	wantNone(5, 0, api.MaxSide+1)
	for width := 1; width <= api.MaxSide; width++ {
		for first := range api.MaxMbs {
			wantNone(first-1, first, width)
		}
		for first := range 200 {
			for addr := range first {
				wantNone(addr, first, width)
			}
		}
	}
}

func TestNearIsBefore(t *testing.T) { // P11.7
	near := func(addr, first, width int) (left, above int) {
		left, above, e := place.Near(addr, first, width)
		if e != api.OK {
			t.Fatalf("Near(%d, %d, %d): error %d", addr, first, width, e)
		}
		return left, above
	}
	for width := 1; width <= api.MaxSide; width++ {
		addresses(width, func(addr, first int) {
			left, above := near(addr, first, width)
			for _, n := range []int{left, above} {
				if n >= addr || n != -1 && n < first {
					t.Fatalf("Near(%d, %d, %d) has %d", addr, first, width, n)
				}
			}
			if above >= 0 && addr%width != 0 && left < 0 {
				t.Fatalf("Near(%d, %d, %d) has %d above and none to the left", addr, first, width, above)
			}
			if left < 0 {
				return
			}
			if _, corner := near(left, first, width); corner >= 0 {
				if above < 0 {
					t.Fatalf("Near(%d, %d, %d) has none above, but %d has", addr, first, width, left)
				}
				if n, _ := near(above, first, width); n != corner {
					t.Fatalf("above %d is %d, to the left of %d is %d", left, corner, above, n)
				}
			}
		})
	}
}

func TestNearToTheLeft(t *testing.T) { // P11.8
	for width := 1; width <= api.MaxSide; width++ {
		has := map[int]bool{} // by columns
		for column := range width {
			left, _, _ := place.Near(width+column, 0, width)
			has[column] = left >= 0
		}
		addresses(width, func(addr, first int) {
			left, _, e := place.Near(addr, first, width)
			if want := addr != first && has[addr%width]; left >= 0 != want || e != api.OK {
				t.Fatalf("Near(%d, %d, %d) has %d to the left, error %d", addr, first, width, left, e)
			}
		})
	}
}
