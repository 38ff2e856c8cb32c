package count_test

import (
	"slices"
	"testing"

	"spindle/api"
	"spindle/count"
	"spindle/mb"
)

// kindsWithBlocks are the kinds of macroblocks that have Cbp.
var kindsWithBlocks = []uint8{api.MbN, api.Mb16, api.MbP1, api.MbP2, api.MbP3, api.MbP4}

// samples is a macroblock of kind MbPcm.
func samples() api.Mb {
	r := random(1)
	return r.macroblock(api.MbPcm)
}

// exampleP is the macroblock P of the examples.
func exampleP() api.Mb {
	m := api.Mb{Kind: api.MbP1, Refs: []int{0}, Mvds: []api.Vec{{}}, Cbp: 1}
	for i := range 4 {
		l := make([]int, 16)
		for k := range i + 1 {
			l[15-k] = k - 9
		}
		m.Blocks = append(m.Blocks, l)
	}
	return m
}

func TestExamples(t *testing.T) { // P15.1, P15.2
	m, skip, p := samples(), api.Mb{Kind: api.MbSkip}, exampleP()
	wantClass(t, slice(t, 0, 4), p, api.Coded{Cat: api.CatLuma}, 0)
	wantClass(t, slice(t, 0, 4, m), p, api.Coded{Cat: api.CatLuma}, 3)
	wantClass(t, slice(t, 1, 2, m, skip), p, api.Coded{Cat: api.CatLuma}, 3)
	for k, want := range []int{0, 0, 0, 1} {
		wantClass(t, slice(t, 0, 4), p, api.Coded{Cat: api.CatLuma, K: k}, want)
	}
	p.Cbp = 17
	wantClass(t, slice(t, 0, 4), p, api.Coded{Cat: api.CatChDC}, 4)
	p.Cbp = 1
	wantTotal(t, p, api.Coded{Cat: api.CatLuma, K: 3}, 4)
	wantTotal(t, p, api.Coded{Cat: api.CatAC, K: 3}, 4)
	wantTotal(t, p, api.Coded{Cat: api.CatLuma, K: 4}, 0)
	wantTotal(t, p, api.Coded{Cat: api.CatDC}, 0)
	wantError(t, slice(t, 0, 4), p, api.Coded{Cat: api.CatAC}, api.ErrArg)
}

// modelTotal is the total of a block by its definition.
func modelTotal(m api.Mb, c api.Coded) int {
	for i, b := range mb.Blocks(m) {
		isLuma := b.Comp == c.Comp && b.K == c.K && (b.Cat == 1 || b.Cat == 2) && (c.Cat == 1 || c.Cat == 2)
		if (b == c || isLuma) && i < len(m.Blocks) {
			return ones(m.Blocks[i])
		}
	}
	return 0
}

func TestTotal(t *testing.T) { // P15.1
	r := random(2)
	for range 30 {
		for _, kind := range kindsWithBlocks {
			m := r.macroblock(kind)
			blocksAndOthers(func(c api.Coded) { wantTotal(t, m, c, modelTotal(m, c)) })
		}
	}
}

func TestTotalOfEachNumber(t *testing.T) { // P15.1: zeros do not count, wherever they are, and the sign does not matter
	for _, kind := range kindsWithBlocks {
		for n := range 17 {
			m := full(kind, always(n))
			for _, c := range mb.Blocks(m) {
				wantTotal(t, m, c, min(n, []int{16, 15, 16, 4, 15}[c.Cat]))
			}
		}
	}
}

func TestTotalOfOneBlock(t *testing.T) { // P15.1: the total is that of the block itself, not of another one
	for _, kind := range kindsWithBlocks {
		for _, one := range mb.Blocks(api.Mb{Kind: kind, Cbp: 47}) {
			m := full(kind, func(c api.Coded) int {
				if c == one {
					return 3
				}
				return 0
			})
			for _, c := range mb.Blocks(m) {
				want := 0
				if c == one {
					want = 3
				}
				wantTotal(t, m, c, want)
			}
		}
	}
}

func TestTotalOfLuma(t *testing.T) { // P15.1: whichever it has
	for k := range 16 {
		for _, kind := range kindsWithBlocks {
			m := full(kind, func(c api.Coded) int {
				if c.Cat == api.CatAC || c.Cat == api.CatLuma {
					return c.K % 15
				}
				return 4
			})
			wantTotal(t, m, api.Coded{Cat: api.CatAC, K: k}, k%15)
			wantTotal(t, m, api.Coded{Cat: api.CatLuma, K: k}, k%15)
		}
	}
}

func TestTotalOfSamples(t *testing.T) { // P15.1: 16 for all blocks that there are, and 0 for the others
	m, l := samples(), []api.Coded{}
	for _, kind := range kindsWithBlocks {
		l = append(l, mb.Blocks(api.Mb{Kind: kind, Cbp: 47})...)
	}
	blocksAndOthers(func(c api.Coded) {
		want := 0
		if slices.Contains(l, c) {
			want = 16
		}
		wantTotal(t, m, c, want)
		wantTotal(t, api.Mb{Kind: api.MbPcm, Cbp: 1, Blocks: [][]int{{1, 2, 3}}}, c, want)
	})
}

func TestTotalOfSkipped(t *testing.T) { // P15.1
	blocksAndOthers(func(c api.Coded) {
		wantTotal(t, api.Mb{Kind: api.MbSkip}, c, 0)
		wantTotal(t, api.Mb{}, c, 0)
	})
}

func TestTotalOfFewBlocks(t *testing.T) { // P15.1: a block that is coded, but not there
	for _, kind := range kindsWithBlocks {
		m := full(kind, always(4))
		coded := mb.Blocks(m)
		for size := range len(coded) + 1 {
			for i, c := range coded {
				want := 0
				if i < size {
					want = 4
				}
				wantTotal(t, cut(m, size), c, want)
			}
		}
	}
}

func TestTotalOfOddMacroblocks(t *testing.T) { // P15.1, R1
	blocks := [][]int{{1, 1, 1}, nil, {1 << 40, 0, -1 << 63}, {}}
	for _, kind := range []uint8{api.MbSkip, 8, 9, 128, 255} { // of kinds without blocks
		blocksAndOthers(func(c api.Coded) {
			wantTotal(t, api.Mb{Kind: kind, Cbp: 255, Blocks: blocks}, c, 0)
		})
	}
	m := api.Mb{Kind: api.MbN, Cbp: 255, Blocks: blocks} // blocks of other sizes
	for k, want := range []int{3, 0, 2, 0, 0} {
		wantTotal(t, m, api.Coded{Cat: api.CatLuma, K: k}, want)
	}
	m = api.Mb{Kind: api.MbP1, Blocks: blocks} // blocks that are there, but not coded
	blocksAndOthers(func(c api.Coded) { wantTotal(t, m, c, 0) })
}

func TestClassNil(t *testing.T) { // P15.2, R5
	blocksAndOthers(func(c api.Coded) {
		wantError(t, nil, exampleP(), c, api.ErrNil)
		wantError(t, nil, samples(), c, api.ErrNil)
	})
}

func TestClassOfOthers(t *testing.T) { // P15.2: only blocks that are coded have a class
	n := slice(t, 1, 2, samples(), samples())
	for kind := range uint8(10) {
		for _, cbp := range []uint8{0, 1, 2, 4, 8, 15, 16, 18, 31, 32, 37, 47, 48, 255} {
			m := api.Mb{Kind: kind, Cbp: cbp, Blocks: full(api.MbN, always(5)).Blocks}
			coded := mb.Blocks(m)
			blocksAndOthers(func(c api.Coded) {
				switch {
				case !slices.Contains(coded, c):
					wantError(t, n, m, c, api.ErrArg)
				case c.Cat == api.CatChDC:
					wantClass(t, n, m, c, 4)
				}
			})
		}
	}
}

func TestClassInSlices(t *testing.T) { // P15.2
	r := random(3)
	for width := 1; width <= 4; width++ {
		for first := range width + 1 {
			for range 5 {
				wantClasses(t, first, width, r.mbs(3*width+1))
			}
		}
	}
	wantClasses(t, 8159-140, 128, r.mbs(141))
}

// wantClasses checks the classes of all blocks of a slice, each when those before it are there.
func wantClasses(t *testing.T, first, width int, l []api.Mb) {
	t.Helper()
	n, g := slice(t, first, width), grid{}
	for _, m := range l {
		for i, c := range mb.Blocks(m) {
			g.put(n.Next(), width, cut(m, i))
			wantClass(t, n, cut(m, i), c, g.class(n.Next(), width, c))
		}
		g.put(n.Next(), width, m)
		n.Add(m)
	}
}

func TestClassOfEachPair(t *testing.T) { // P15.2, P15.3, P15.5: all totals to the left and above, of which one may not be there
	for _, c := range []api.Coded{{Cat: api.CatDC}, {Cat: api.CatAC}, {Cat: api.CatLuma}, {Cat: api.CatChAC}, {Cat: api.CatChAC, Comp: 1}} {
		kind := api.MbP2
		if c.Cat == api.CatDC || c.Cat == api.CatAC {
			kind = api.Mb16
		}
		m := api.Mb{Kind: kind, Cbp: 47}
		for a := range 17 {
			wantClass(t, slice(t, 0, 9, filled(c, a)), m, c, classes[a])
			wantClass(t, slice(t, 8, 1, filled(c, a)), m, c, classes[a])
			for b := range 17 {
				wantClass(t, slice(t, 1, 2, filled(c, b), filled(c, a)), m, c, classes[(a+b+1)/2])
			}
		}
	}
}

// filled is a macroblock in which the blocks that may be nearby c have n coefficients that are not 0, and the others another number.
func filled(c api.Coded, n int) api.Mb {
	if n == 16 && c.Cat == api.CatChAC {
		return samples() // no other block of chroma has so many
	}
	isNear := func(other api.Coded) bool {
		if c.Cat == api.CatChAC {
			return other.Cat == api.CatChAC && other.Comp == c.Comp
		}
		return other.Cat == api.CatLuma
	}
	return full(api.MbP4, func(other api.Coded) int {
		if isNear(other) {
			return n
		}
		return min(16-n, sizeOf(other))
	})
}

func TestClassWithinMacroblock(t *testing.T) { // P15.2: blocks that are in the same macroblock are available, even if they are not coded
	m := api.Mb{Kind: api.MbP1, Cbp: 2 + 8} // the right quarters
	r := random(4)
	for range 4 {
		m.Blocks = append(m.Blocks, r.block(16, 7))
	}
	n := slice(t, 0, 1)
	for i, want := range []int{0, 2, 2, 2} { // 6 has 7 above and 0 to the left, in a quarter that is not coded
		wantClass(t, n, m, api.Coded{Cat: api.CatLuma, K: 4 + i}, want)
	}
	n = slice(t, 0, 1, samples())
	wantClass(t, n, m, api.Coded{Cat: api.CatLuma, K: 4}, 3)  // 16 above, 0 to the left
	wantClass(t, n, m, api.Coded{Cat: api.CatLuma, K: 12}, 2) // 7 above
}

func TestDCBlocksDoNotCount(t *testing.T) { // P15.2: nearby are the blocks of luma and those of chroma that are not DC
	dc := full(api.Mb16, func(c api.Coded) int {
		if c.Cat == api.CatDC || c.Cat == api.CatChDC {
			return sizeOf(c)
		}
		return 0
	})
	n := slice(t, 1, 2, dc, dc)
	for _, kind := range kindsWithBlocks {
		m := api.Mb{Kind: kind, Cbp: 47}
		for _, c := range mb.Blocks(m) {
			if c.Cat == api.CatChDC {
				wantClass(t, n, m, c, 4)
				continue
			}
			wantClass(t, n, m, c, 0)
		}
	}
	for _, c := range mb.Blocks(dc) {
		if c.Cat != api.CatChDC {
			wantClass(t, slice(t, 0, 1), dc, c, 0)
		}
	}
}

func TestDCBlockIsLikeTheFirst(t *testing.T) { // P15.2: for CatDC the same blocks are nearby as for the luma block 0
	r := random(6)
	for range 200 {
		n := slice(t, 0, 2, r.mbs(3)...)
		m := api.Mb{Kind: api.Mb16, Cbp: 47, Blocks: [][]int{r.block(16, r.below(17))}}
		want, e := count.Class(n, m, api.Coded{Cat: api.CatAC})
		if e != api.OK {
			t.Fatalf("error %d", e)
		}
		wantClass(t, n, m, api.Coded{Cat: api.CatDC}, want)
	}
}

func TestLaterBlocks(t *testing.T) { // P15.2, P15.3: those that are there already do not matter, if they are not nearby
	r := random(7)
	for _, kind := range kindsWithBlocks {
		n := slice(t, 0, 2, r.mbs(3)...)
		m := full(kind, always(6))
		for i, c := range mb.Blocks(m) {
			want, _ := count.Class(n, cut(m, i), c)
			for size := i; size <= len(m.Blocks); size++ {
				wantClass(t, n, cut(m, size), c, want)
			}
		}
	}
}

func TestBlocksThatAreNotThere(t *testing.T) { // P15.2: they count as blocks without coefficients
	n := slice(t, 1, 2, samples(), samples())
	for _, kind := range kindsWithBlocks {
		m := full(kind, always(9))
		for size := range len(m.Blocks) {
			g := grid{}
			for i, m := range []api.Mb{samples(), samples(), cut(m, size)} {
				g.put(i+1, 2, m)
			}
			for _, c := range mb.Blocks(m) {
				wantClass(t, n, cut(m, size), c, g.class(3, 2, c))
			}
		}
	}
}

func TestClassIsThatOfNumbers(t *testing.T) { // P15.3: which coefficients there are does not matter
	r := random(8)
	again := func(l []api.Mb) []api.Mb {
		var out []api.Mb
		for _, m := range l {
			m = mb.Copy(m)
			for i, b := range m.Blocks {
				m.Blocks[i] = r.block(len(b), ones(b))
			}
			m.Refs, m.Mvds, m.Qp, m.Chroma = []int{r.below(32)}, []api.Vec{{X: r.below(9)}}, r.below(20), 2
			out = append(out, m)
		}
		return out
	}
	for range 50 {
		l := r.mbs(7)
		n, other := slice(t, 3, 3, l...), slice(t, 3, 3, again(l)...)
		m := full(kindsWithBlocks[r.below(6)], func(c api.Coded) int { return r.below(sizeOf(c) + 1) })
		same := again([]api.Mb{m})[0]
		for _, c := range mb.Blocks(m) {
			want, _ := count.Class(n, m, c)
			wantClass(t, other, same, c, want)
		}
	}
}

func TestOnlyNearbyMatters(t *testing.T) { // P15.3: the other macroblocks, and the other blocks, may be any
	const width = 3
	r := random(9)
	l := r.mbs(8)
	m := full(api.MbN, func(c api.Coded) int { return r.below(sizeOf(c) + 1) })
	n := slice(t, 2, width, l...)
	for i := range l {
		if i == len(l)-1 || i == len(l)-width {
			continue
		}
		changed := slices.Clone(l)
		changed[i] = samples()
		other := slice(t, 2, width, changed...)
		for _, c := range mb.Blocks(m) {
			want, _ := count.Class(n, m, c)
			wantClass(t, other, m, c, want)
		}
	}
}

func TestWithoutCoefficients(t *testing.T) { // P15.4
	r := random(10)
	for _, width := range []int{1, 2, 3, 128} {
		n := slice(t, 5, width)
		for range 3*width + 2 {
			kind := []uint8{api.MbN, api.Mb16, api.MbP1, api.MbP2, api.MbP3, api.MbP4, api.MbSkip}[r.below(7)]
			m := r.macroblock(kind)
			for _, b := range m.Blocks {
				clear(b)
			}
			for i, c := range mb.Blocks(m) {
				want := 0
				if c.Cat == api.CatChDC {
					want = 4
				}
				wantClass(t, n, cut(m, i), c, want)
			}
			n.Add(m)
		}
	}
}

func TestClassAtTheEnd(t *testing.T) { // P15.2, R1: also where no macroblock can come any more
	n := slice(t, 8158, 1, samples(), samples())
	wantClass(t, n, exampleP(), api.Coded{Cat: api.CatLuma}, 3)
	wantClass(t, n, exampleP(), api.Coded{Cat: api.CatLuma, K: 2}, 0)
}

func TestClassOfOddMacroblocks(t *testing.T) { // P15.2, R1: nothing is asked of the macroblocks nearby, nor of the blocks of the next one
	odd := []api.Mb{
		{Kind: 255, Cbp: 255, Blocks: [][]int{{1, 2, 3}}},
		{Kind: api.MbN, Cbp: 255, Blocks: [][]int{nil, {1}, {}}},
		{Kind: api.MbSkip, Cbp: 47, Blocks: make([][]int, 99)},
		{Kind: api.MbPcm},
		{Kind: api.Mb16, Cbp: 5},
	}
	for _, a := range odd {
		for _, b := range odd {
			for _, m := range odd {
				wantClasses(t, 1, 2, []api.Mb{a, b, m, full(api.MbP3, always(2))})
			}
		}
	}
}

func TestLongBlocks(t *testing.T) { // P15.1, P15.2: a block with more coefficients than its category has
	long := api.Mb{Kind: api.MbP1, Cbp: 15}
	r := random(11)
	for range 16 {
		long.Blocks = append(long.Blocks, r.block(100, 90))
	}
	wantTotal(t, long, api.Coded{Cat: api.CatLuma, K: 5}, 90)
	wantClass(t, slice(t, 0, 2, long), exampleP(), api.Coded{Cat: api.CatLuma}, 3)
	wantClass(t, slice(t, 0, 1, long), exampleP(), api.Coded{Cat: api.CatLuma}, 3)
}

func TestNothingChanges(t *testing.T) { // R3, R5, R6: neither the arguments nor the results of later calls
	r := random(12)
	for range 50 {
		l := r.mbs(4)
		n := slice(t, 3, 3, l...)
		m := full(kindsWithBlocks[r.below(6)], always(r.below(17)))
		before := mb.Copy(m)
		blocksAndOthers(func(c api.Coded) {
			got, e := count.Class(n, m, c)
			total := count.Total(m, c)
			again, f := count.Class(n.Copy(), m, c)
			if again != got || e != f || count.Total(m, c) != total {
				t.Fatalf("other results for %v: %d, error %d, after %d, error %d", c, again, f, got, e)
			}
		})
		if !mb.Equal(m, before) || !slices.EqualFunc(n.Mbs(), l, mb.Equal) || n.Next() != 7 {
			t.Fatal("an argument was changed")
		}
	}
}
