package count_test

import (
	"strings"
	"testing"

	"spindle/api"
	"spindle/count"
	"spindle/mb"
	"spindle/near"
)

// The numbers of the luma blocks of a macroblock, and of the chroma blocks of a component, as they lie in it.
var (
	lumaRows   = [][]int{{0, 1, 4, 5}, {2, 3, 6, 7}, {8, 9, 12, 13}, {10, 11, 14, 15}}
	chromaRows = [][]int{{0, 1}, {2, 3}}
)

// spot is where a block lies in the picture: in luma (0), or in a component of chroma (1 and 2).
type spot struct {
	plane, column, row int
}

// grid is the totals of all blocks that are in the slice.
type grid map[spot]int

// spots yields the blocks of a macroblock that have a place, and where they lie.
func spots(address, width int, yield func(s spot, c api.Coded)) {
	column, row := address%width, address/width
	for y, l := range lumaRows {
		for x, k := range l {
			yield(spot{0, 4*column + x, 4*row + y}, api.Coded{Cat: api.CatLuma, K: k})
		}
	}
	for comp := range 2 {
		for y, l := range chromaRows {
			for x, k := range l {
				yield(spot{1 + comp, 2*column + x, 2*row + y}, api.Coded{Cat: api.CatChAC, Comp: uint8(comp), K: k})
			}
		}
	}
}

// put adds the blocks of a macroblock, those that are not coded with 0.
func (g grid) put(address, width int, m api.Mb) {
	spots(address, width, func(s spot, c api.Coded) {
		g[s] = 0
		if m.Kind == api.MbPcm {
			g[s] = 16
		}
		for i, b := range mb.Blocks(m) {
			if b.Cat == api.CatAC {
				b.Cat = api.CatLuma
			}
			if b == c && i < len(m.Blocks) {
				g[s] = ones(m.Blocks[i])
			}
		}
	})
}

// class is the class of a block of the macroblock at an address.
func (g grid) class(address, width int, c api.Coded) int {
	switch c.Cat {
	case api.CatChDC:
		return 4
	case api.CatDC, api.CatAC:
		c.Cat = api.CatLuma
	}
	var at spot
	spots(address, width, func(s spot, other api.Coded) {
		if other == c {
			at = s
		}
	})
	left, isLeft := g[spot{at.plane, at.column - 1, at.row}]
	above, isAbove := g[spot{at.plane, at.column, at.row - 1}]
	switch {
	case isLeft && isAbove:
		return classes[(left+above)/2+(left+above)%2]
	case isLeft:
		return classes[left]
	case isAbove:
		return classes[above]
	}
	return 0
}

// The classes of the expected numbers from 0 to 16.
var classes = []int{0, 0, 1, 1, 2, 2, 2, 2, 3, 3, 3, 3, 3, 3, 3, 3, 3}

// ones is how many numbers of a list are not 0.
func ones(l []int) int {
	n := 0
	for _, v := range l {
		if v > 0 || v < 0 {
			n++
		}
	}
	return n
}

// random is a source of numbers, the same ones each time.
type random uint64

// below is a number from 0 to n - 1.
func (r *random) below(n int) int {
	*r = *r*6364136223846793005 + 1442695040888963407
	return int(uint64(*r)>>33) % n
}

// level is a coefficient that is not 0.
func (r *random) level() int {
	l := []int{1, -1, 2, -2, 100, -100, api.MaxLevel, -api.MaxLevel}
	return l[r.below(len(l))]
}

// block is a block of this size, of which so many coefficients, anywhere in it, are not 0.
func (r *random) block(size, n int) []int {
	l := make([]int, size)
	for ; n > 0; n-- {
		k := r.below(size)
		for l[k] != 0 {
			k = (k + 1) % size
		}
		l[k] = r.level()
	}
	return l
}

// macroblock is a macroblock of a kind with any blocks; the other elements are left out, as they do not matter.
func (r *random) macroblock(kind uint8) api.Mb {
	m := api.Mb{Kind: kind}
	switch kind {
	case api.MbPcm:
		m.Pcm = strings.Repeat("\x05", api.PcmBytes)
	case api.Mb16:
		m.Cbp = uint8(15*r.below(2) + 16*r.below(3))
	case api.MbSkip:
	default:
		m.Cbp = uint8(r.below(48))
	}
	for _, c := range mb.Blocks(m) {
		size := sizeOf(c)
		most := []int{0, 1, 3, 5, size}[r.below(5)]
		m.Blocks = append(m.Blocks, r.block(size, min(size, r.below(most+1))))
	}
	return m
}

// mbs are macroblocks of any kinds.
func (r *random) mbs(n int) []api.Mb {
	var l []api.Mb
	for range n {
		l = append(l, r.macroblock(uint8(r.below(8))))
	}
	return l
}

func sizeOf(c api.Coded) int {
	return [...]int{16, 15, 16, 4, 15}[c.Cat]
}

// full is a macroblock of a kind that codes all blocks it can have, each with as many coefficients that are not 0 as a function says.
func full(kind uint8, n func(c api.Coded) int) api.Mb {
	m := api.Mb{Kind: kind, Cbp: 47}
	r := random(5)
	for _, c := range mb.Blocks(m) {
		m.Blocks = append(m.Blocks, r.block(sizeOf(c), n(c)))
	}
	return m
}

// always says one number for all blocks, or the size of those that are smaller.
func always(n int) func(c api.Coded) int {
	return func(c api.Coded) int { return min(n, sizeOf(c)) }
}

// cut returns a macroblock with the first ones of its blocks, at most n.
func cut(m api.Mb, n int) api.Mb {
	m.Blocks = m.Blocks[:min(n, len(m.Blocks))]
	return m
}

// blocksAndOthers yields the names of all blocks, and of some that there are not.
func blocksAndOthers(yield func(c api.Coded)) {
	for cat := range uint8(7) {
		for _, comp := range []uint8{0, 1, 2, 255} {
			for k := -1; k < 18; k++ {
				yield(api.Coded{Cat: cat, Comp: comp, K: k})
			}
			yield(api.Coded{Cat: cat, Comp: comp, K: 1 << 32})
			yield(api.Coded{Cat: cat, Comp: comp, K: 1<<63 - 1})
			yield(api.Coded{Cat: cat, Comp: comp, K: -1 << 63})
		}
	}
	yield(api.Coded{Cat: 255})
	yield(api.Coded{Cat: api.CatLuma + 16})
}

// slice is a slice with these macroblocks.
func slice(t *testing.T, first, width int, l ...api.Mb) *near.Near {
	t.Helper()
	n, e := near.New(first, width)
	if e != api.OK {
		t.Fatalf("New(%d, %d): error %d", first, width, e)
	}
	for _, m := range l {
		if e := n.Add(m); e != api.OK {
			t.Fatalf("Add at %d: error %d", n.Next(), e)
		}
	}
	return n
}

func wantTotal(t *testing.T, m api.Mb, c api.Coded, want int) {
	t.Helper()
	if got := count.Total(m, c); got != want {
		t.Fatalf("Total of %v in kind %d with Cbp %d and %d blocks: %d, want %d", c, m.Kind, m.Cbp, len(m.Blocks), got, want)
	}
}

func wantClass(t *testing.T, n *near.Near, m api.Mb, c api.Coded, want int) {
	t.Helper()
	if got, e := count.Class(n, m, c); got != want || e != api.OK {
		t.Fatalf("Class of %v at %d in kind %d with Cbp %d and %d blocks: %d, error %d; want %d", c, n.Next(), m.Kind, m.Cbp, len(m.Blocks), got, e, want)
	}
}

func wantError(t *testing.T, n *near.Near, m api.Mb, c api.Coded, want api.Errno) {
	t.Helper()
	if got, e := count.Class(n, m, c); got != 0 || e != want {
		t.Fatalf("Class of %v in kind %d with Cbp %d: %d, error %d; want error %d", c, m.Kind, m.Cbp, got, e, want)
	}
}
