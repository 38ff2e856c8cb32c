package mb_test

import (
	"math"
	"reflect"
	"testing"

	"spindle/api"
	"spindle/mb"
)

func wantCheck(t *testing.T, m api.Mb, intra bool, refs int, want api.Errno) {
	t.Helper()
	if e := mb.Check(m, intra, refs); e != want {
		t.Errorf("Check(%s, %v, %d): error %d, want %d", text(m), intra, refs, e, want)
	}
}

func wantBlocks(t *testing.T, m api.Mb, want []api.Coded) {
	t.Helper()
	if l := mb.Blocks(m); len(l) != len(want) || len(l) > 0 && !reflect.DeepEqual(l, want) {
		t.Errorf("Blocks(kind %d, Cbp %d) = %v, want %v", m.Kind, m.Cbp, l, want)
	}
}

func wantSize(t *testing.T, cat uint8, want int, err api.Errno) {
	t.Helper()
	if n, e := mb.Size(cat); n != want || e != err {
		t.Errorf("Size(%d) = %d, error %d; want %d, %d", cat, n, e, want, err)
	}
}

func wantBlock(t *testing.T, m api.Mb, c api.Coded, want []int, is bool) {
	t.Helper()
	l, ok := mb.Block(m, c)
	if ok != is || len(l) != len(want) || len(l) > 0 && !reflect.DeepEqual(l, want) {
		t.Errorf("Block(kind %d, Cbp %d with %d blocks, %v) = %v, %v; want %v, %v", m.Kind, m.Cbp, len(m.Blocks), c, l, ok, want, is)
	}
}

func wantEqual(t *testing.T, a, b api.Mb, want bool) {
	t.Helper()
	if mb.Equal(a, b) != want || mb.Equal(b, a) != want {
		t.Errorf("Equal is not %v for %s and %s", want, text(a), text(b))
	}
}

func TestExamples(t *testing.T) { // P13.1 to P13.3
	wantBlocks(t, api.Mb{Kind: api.Mb16}, []api.Coded{{Cat: api.CatDC}})
	wantBlocks(t, api.Mb{Kind: api.MbN, Cbp: 18}, []api.Coded{
		{Cat: 2, K: 4}, {Cat: 2, K: 5}, {Cat: 2, K: 6}, {Cat: 2, K: 7}, {Cat: 3}, {Cat: 3, Comp: 1}})
	wantBlocks(t, api.Mb{Kind: api.MbP1, Cbp: 32}, []api.Coded{
		{Cat: 3}, {Cat: 3, Comp: 1}, {Cat: 4}, {Cat: 4, K: 1}, {Cat: 4, K: 2}, {Cat: 4, K: 3},
		{Cat: 4, Comp: 1}, {Cat: 4, Comp: 1, K: 1}, {Cat: 4, Comp: 1, K: 2}, {Cat: 4, Comp: 1, K: 3}})
	wantSize(t, 1, 15, api.OK)
	wantSize(t, 3, 4, api.OK)
	wantSize(t, 5, 0, api.ErrRange)
	wantCheck(t, api.Mb{Kind: api.MbSkip}, false, 1, api.OK)
	wantCheck(t, api.Mb{Kind: api.MbSkip}, true, 0, api.ErrKind)
	wantCheck(t, api.Mb{Kind: api.MbN}, true, 0, api.OK)
	wantCheck(t, api.Mb{Kind: api.MbN}, true, 1, api.ErrArg)
	m := api.Mb{Kind: api.MbP1, Refs: []int{1}, Mvds: []api.Vec{{}}}
	wantCheck(t, m, false, 1, api.ErrRange)
	wantCheck(t, m, false, 2, api.OK)
	m.Qp = 1
	wantCheck(t, m, false, 2, api.ErrArg)
	m.Qp, m.Mvds = 0, nil
	wantCheck(t, m, false, 2, api.ErrArg)
	wantCheck(t, api.Mb{Kind: api.MbN, Cbp: 48}, true, 0, api.ErrRange)
	wantCheck(t, api.Mb{Kind: api.Mb16}, true, 0, api.ErrArg)
}

func TestValid(t *testing.T) { // P13.1
	samples(func(m api.Mb, refs int) {
		intra := m.Kind <= api.MbPcm
		wantCheck(t, m, false, refs, api.OK)
		if intra {
			wantCheck(t, m, true, 0, api.OK)
		} else {
			wantCheck(t, m, true, 0, api.ErrKind)
		}
	})
}

func TestRefsOfSlices(t *testing.T) { // P13.1
	for refs := -40; refs < 80; refs++ {
		inter, intra := api.ErrArg, api.ErrArg
		if refs >= 1 && refs <= 32 {
			inter = api.OK
		}
		if refs == 0 {
			intra = api.OK
		}
		wantCheck(t, valid(api.MbP1, 1), false, refs, inter)
		wantCheck(t, valid(api.MbN, 1), false, refs, inter)
		wantCheck(t, valid(api.MbN, 1), true, refs, intra)
		if intra == api.OK {
			intra = api.ErrKind
		}
		wantCheck(t, valid(api.MbP1, 1), true, refs, intra)
	}
	for _, refs := range []int{math.MinInt, math.MinInt32, math.MaxInt32, math.MaxInt} {
		wantCheck(t, valid(api.MbP1, 1), false, refs, api.ErrArg)
		wantCheck(t, valid(api.MbN, 1), true, refs, api.ErrArg)
	}
}

func TestKindsOfSlices(t *testing.T) { // P13.1: ErrArg for refs, then ErrKind, then the fields
	for kind := range 256 {
		m := wrong(uint8(kind))
		inter, intra := api.ErrArg, api.ErrArg
		if kind > 7 {
			inter = api.ErrKind
		}
		if kind > 2 {
			intra = api.ErrKind
		}
		if kind == 1 { // its first field has a number that is out of range
			inter, intra = api.ErrRange, api.ErrRange
		}
		for refs := 1; refs <= 32; refs++ {
			wantCheck(t, m, false, refs, inter)
			wantCheck(t, m, true, refs, api.ErrArg)
		}
		wantCheck(t, m, true, 0, intra)
		wantCheck(t, m, false, 0, api.ErrArg)
		wantCheck(t, m, false, 33, api.ErrArg)
	}
}

func TestFault(t *testing.T) { // P13.1
	samples(func(m api.Mb, refs int) {
		for _, f := range faults(m, refs) {
			x := clone(m)
			f.put(&x)
			wantCheck(t, x, false, refs, f.want)
			if m.Kind <= api.MbPcm {
				wantCheck(t, x, true, 0, f.want)
			}
		}
	})
}

func TestTwoFaults(t *testing.T) { // P13.1, R2: field by field, in the order of the chapter
	samples(func(m api.Mb, refs int) {
		l := faults(m, refs)
		for i, f := range l {
			for _, g := range l[i+1:] {
				if g.field == f.field {
					continue
				}
				x := clone(m)
				g.put(&x)
				f.put(&x)
				wantCheck(t, x, false, refs, f.want)
			}
		}
	})
}

func TestTwoFaultsOfBlocks(t *testing.T) { // P13.1: block by block, first the number of coefficients
	samples(func(m api.Mb, refs int) {
		for i := range m.Blocks {
			x := clone(m)
			x.Blocks[i][0] = api.MaxLevel + 1
			for j := range m.Blocks {
				want := api.ErrArg
				if j > i {
					want = api.ErrRange
				}
				y := clone(x)
				y.Blocks[j] = append(y.Blocks[j], 0)
				wantCheck(t, y, false, refs, want)
			}
			x.Blocks = append(x.Blocks, nil)
			wantCheck(t, x, false, refs, api.ErrArg)
		}
	})
}

func TestNumbers(t *testing.T) { // P13.1: all numbers of bytes, each by itself
	for n := range 256 {
		m := valid(api.Mb16, 1)
		m.Mode = uint8(n)
		wantCheck(t, m, true, 0, upTo(n, 3))
		m = valid(api.Mb16, 1)
		m.Chroma = uint8(n)
		wantCheck(t, m, true, 0, upTo(n, 3))
		m = valid(api.MbN, 1)
		m.Chroma = uint8(n)
		wantCheck(t, m, true, 0, upTo(n, 3))
		for i := range 16 {
			m = valid(api.MbN, 1)
			m.Preds[i] = uint8(n)
			wantCheck(t, m, false, 1, upTo(n, 8))
		}
		for i := range 4 {
			var sub [4]uint8
			sub[i] = uint8(n)
			wantCheck(t, inter(api.MbP4, sub, 1, 0), false, 1, upTo(n, 3))
		}
	}
}

func TestCbp(t *testing.T) { // P13.1
	for n := range 256 {
		for _, kind := range []uint8{api.MbN, api.MbP1, api.MbP2, api.MbP3, api.MbP4} {
			m := valid(kind, 1)
			m.Cbp, m.Qp = uint8(n), 0
			m.Blocks = zeros(m)
			wantCheck(t, m, false, 1, upTo(n, 47))
		}
		m := valid(api.Mb16, 1)
		m.Cbp = uint8(n)
		m.Blocks = zeros(m)
		want := upTo(n, 47)
		if n%16 != 0 && n%16 != 15 {
			want = api.ErrRange
		}
		wantCheck(t, m, true, 0, want)
	}
}

func TestQp(t *testing.T) { // P13.1
	qps := []int{math.MinInt, math.MinInt32, math.MaxInt32, math.MaxInt}
	for qp := -300; qp <= 300; qp++ {
		qps = append(qps, qp)
	}
	samples(func(m api.Mb, refs int) {
		for _, qp := range qps {
			m.Qp = qp
			want := api.OK
			switch has := m.Kind == api.Mb16 || m.Cbp != 0; {
			case has && (qp < -26 || qp > 25):
				want = api.ErrRange
			case !has && qp != 0:
				want = api.ErrArg
			}
			wantCheck(t, m, false, refs, want)
		}
	})
}

func TestRefs(t *testing.T) { // P13.1
	for _, kind := range []uint8{api.MbP1, api.MbP2, api.MbP3, api.MbP4} {
		for refs := 1; refs <= 32; refs++ {
			m := valid(kind, refs)
			for i := range m.Refs {
				for ref := -3; ref < 70; ref++ {
					x := clone(m)
					x.Refs[i] = ref
					want := api.OK
					if ref < 0 || ref >= refs {
						want = api.ErrRange
					}
					wantCheck(t, x, false, refs, want)
				}
			}
		}
	}
}

func TestNumbersOfElements(t *testing.T) { // P13.1: partitions and parts
	counts := map[uint8]int{api.MbP1: 1, api.MbP2: 2, api.MbP3: 2, api.MbP4: 4}
	for kind := range uint8(8) {
		for n := range 40 {
			parts := api.ErrArg
			if n == counts[kind] {
				parts = api.OK
			}
			m := valid(kind, 1)
			m.Refs = make([]int, n)
			wantCheck(t, m, false, 1, parts)
			if kind == api.MbP4 {
				continue
			}
			m = valid(kind, 1)
			m.Mvds = make([]api.Vec, n)
			wantCheck(t, m, false, 1, parts)
		}
	}
	subs(func(sub [4]uint8) {
		pieces := 0
		for _, s := range sub {
			pieces += [...]int{1, 2, 2, 4}[s]
		}
		for n := range 20 {
			m := inter(api.MbP4, sub, 1, 0)
			m.Mvds = make([]api.Vec, n)
			want := api.ErrArg
			if n == pieces {
				want = api.OK
			}
			wantCheck(t, m, false, 1, want)
		}
	})
}

func TestLimits(t *testing.T) { // P13.1: the numbers at both ends of their ranges
	for _, level := range []int{-api.MaxLevel, -api.MaxLevel + 1, api.MaxLevel - 1, api.MaxLevel} {
		samples(func(m api.Mb, refs int) {
			for i := range m.Blocks {
				for j := range m.Blocks[i] {
					m.Blocks[i][j] = level
				}
			}
			wantCheck(t, m, false, refs, api.OK)
		})
	}
	for _, mvd := range []int{-api.MaxMvd, -api.MaxMvd + 1, api.MaxMvd - 1, api.MaxMvd} {
		samples(func(m api.Mb, refs int) {
			for i := range m.Mvds {
				m.Mvds[i].X = mvd
				wantCheck(t, m, false, refs, api.OK)
				m.Mvds[i].Y = mvd
				wantCheck(t, m, false, refs, api.OK)
				m.Mvds[i].X = -mvd
				wantCheck(t, m, false, refs, api.OK)
			}
		})
	}
}

func TestEmptyIsNil(t *testing.T) { // R3
	samples(func(m api.Mb, refs int) {
		x := clone(m)
		if len(m.Refs) == 0 {
			x.Refs = []int{}
		}
		if len(m.Mvds) == 0 {
			x.Mvds = []api.Vec{}
		}
		if len(m.Blocks) == 0 {
			x.Blocks = [][]int{}
		}
		wantCheck(t, x, false, refs, api.OK)
		wantEqual(t, m, x, true)
	})
	a := api.Mb{Cbp: 1, Blocks: [][]int{nil, {}, {1}}}
	b := api.Mb{Cbp: 1, Blocks: [][]int{{}, nil, {1}}}
	wantEqual(t, a, b, true)
	wantBlock(t, a, api.Coded{Cat: api.CatLuma}, nil, true)
	wantBlock(t, b, api.Coded{Cat: api.CatLuma}, nil, true)
}

func TestBlocks(t *testing.T) { // P13.2
	for kind := range 256 {
		for cbp := range 256 {
			m := wrong(uint8(kind))
			m.Cbp = uint8(cbp)
			wantBlocks(t, m, coded(m.Kind, cbp))
		}
	}
}

func TestBlocksAreOrdered(t *testing.T) { // P13.5
	most := 0
	for kind := range 256 {
		for cbp := range 256 {
			l := mb.Blocks(api.Mb{Kind: uint8(kind), Cbp: uint8(cbp)})
			most = max(most, len(l))
			came := map[api.Coded]bool{}
			luma, chroma := 0, 0
			for i, c := range l {
				if came[c] || i > 0 && c.Cat < l[i-1].Cat {
					t.Errorf("kind %d, Cbp %d: %v is not in order in %v", kind, cbp, c, l)
				}
				came[c] = true
				if c.Cat < api.CatChDC {
					luma++
				} else {
					chroma++
				}
			}
			if luma > 17 || chroma > 10 {
				t.Errorf("kind %d, Cbp %d: %d luma blocks, %d chroma blocks", kind, cbp, luma, chroma)
			}
		}
	}
	if most != 27 {
		t.Errorf("at most %d blocks, want 27", most)
	}
}

func TestSize(t *testing.T) { // P13.3
	for cat := range 256 {
		if cat < 5 {
			wantSize(t, uint8(cat), [...]int{16, 15, 16, 4, 15}[cat], api.OK)
		} else {
			wantSize(t, uint8(cat), 0, api.ErrRange)
		}
	}
}

func TestBlock(t *testing.T) { // P13.3
	samples(func(m api.Mb, refs int) {
		number := map[api.Coded]int{}
		for i, c := range coded(m.Kind, int(m.Cbp)) {
			number[c] = i
		}
		for n := range len(m.Blocks) + 1 {
			x := clone(m)
			x.Blocks = x.Blocks[:n]
			all(func(c api.Coded) {
				if i, is := number[c]; is && i < n {
					wantBlock(t, x, c, m.Blocks[i], true)
				} else {
					wantBlock(t, x, c, nil, false)
				}
			})
		}
	})
}

func TestBlockOfAnyMb(t *testing.T) { // P13.3, R1: blocks have what they have
	for kind := range 256 {
		for cbp := range 256 {
			m := wrong(uint8(kind))
			m.Cbp = uint8(cbp)
			l := coded(m.Kind, cbp)
			for i, c := range l {
				if i < len(m.Blocks) {
					wantBlock(t, m, c, m.Blocks[i], true)
				} else {
					wantBlock(t, m, c, nil, false)
				}
			}
			for _, k := range []int{math.MinInt, -1, 16, math.MaxInt} {
				wantBlock(t, m, api.Coded{Cat: api.CatLuma, K: k}, nil, false)
			}
			wantBlock(t, m, api.Coded{Cat: 255, Comp: 255, K: 1}, nil, false)
		}
	}
}

func TestEqual(t *testing.T) { // P13.4
	samples(func(m api.Mb, refs int) {
		wantEqual(t, m, m, true)
		wantEqual(t, m, clone(m), true)
		for _, f := range faults(m, refs) {
			x := clone(m)
			f.put(&x)
			wantEqual(t, m, x, false)
			wantEqual(t, x, clone(x), true)
		}
	})
	for kind := range 256 {
		m := wrong(uint8(kind))
		wantEqual(t, m, wrong(uint8(kind)), true)
		wantEqual(t, m, wrong(uint8(kind)+1), false)
	}
}

func TestEqualInEachNumber(t *testing.T) { // P13.4
	m := wrong(api.MbP4)
	changes := []func(x *api.Mb){
		func(x *api.Mb) { x.Kind-- }, func(x *api.Mb) { x.Mode-- }, func(x *api.Mb) { x.Chroma-- },
		func(x *api.Mb) { x.Cbp-- }, func(x *api.Mb) { x.Qp-- }, func(x *api.Mb) { x.Pcm = "pCm" },
	}
	for i := range m.Preds {
		changes = append(changes, func(x *api.Mb) { x.Preds[i]-- })
	}
	for i := range m.Sub {
		changes = append(changes, func(x *api.Mb) { x.Sub[i]-- })
	}
	for i := range m.Refs {
		changes = append(changes, func(x *api.Mb) { x.Refs[i]-- })
	}
	for i := range m.Mvds {
		changes = append(changes, func(x *api.Mb) { x.Mvds[i].X-- }, func(x *api.Mb) { x.Mvds[i].Y-- })
	}
	for i := range m.Blocks {
		for j := range m.Blocks[i] {
			changes = append(changes, func(x *api.Mb) { x.Blocks[i][j]-- })
		}
	}
	for i, change := range changes {
		x := clone(m)
		change(&x)
		wantEqual(t, m, x, false)
		for _, other := range changes[:i] {
			y := clone(m)
			other(&y)
			wantEqual(t, x, y, false)
		}
	}
}

func TestCopy(t *testing.T) { // P13.4
	copies := func(m api.Mb) {
		x := mb.Copy(m)
		if !same(m, x) {
			t.Errorf("Copy(%s) = %s", text(m), text(x))
		}
		wantEqual(t, m, x, true)
		y := mb.Copy(x)
		scribble(x)
		if !same(m, y) {
			t.Errorf("a copy of %s shares memory with it", text(m))
		}
	}
	samples(func(m api.Mb, refs int) {
		copies(m)
		for _, f := range faults(m, refs) {
			x := clone(m)
			f.put(&x)
			copies(x)
		}
	})
	for kind := range 256 {
		copies(wrong(uint8(kind)))
	}
}

func TestArgumentsStay(t *testing.T) { // R3
	uses := func(m api.Mb, refs int) {
		before := clone(m)
		mb.Check(m, false, refs)
		mb.Check(m, true, 0)
		l := mb.Blocks(m)
		for i, c := range l[:cap(l)] {
			b, _ := mb.Block(m, c)
			for j := range b[:cap(b)] {
				b[:cap(b)][j] = -7
			}
			l[:cap(l)][i] = api.Coded{Cat: 9}
		}
		wantBlocks(t, m, coded(m.Kind, int(m.Cbp)))
		mb.Equal(m, before)
		scribble(mb.Copy(m))
		if !same(m, before) {
			t.Errorf("%s has become %s", text(before), text(m))
		}
	}
	samples(uses)
	for kind := range 256 {
		uses(wrong(uint8(kind)), 1)
	}
}

func TestSlicesOfOtherKinds(t *testing.T) { // P13.6
	tries := func(m api.Mb) {
		first := 33
		for refs := 32; refs >= 1; refs-- {
			if mb.Check(m, false, refs) == api.OK {
				if first != refs+1 {
					t.Errorf("%s is valid for %d, but not for %d", text(m), refs, refs+1)
				}
				first = refs
			}
		}
		if mb.Check(m, true, 0) == api.OK && first != 1 {
			t.Errorf("%s is valid in slices of kind I, but not for %d", text(m), first-1)
		}
	}
	samples(func(m api.Mb, refs int) {
		tries(m)
		for _, f := range faults(m, refs) {
			x := clone(m)
			f.put(&x)
			tries(x)
		}
	})
}

func TestNoCbpNoBlocks(t *testing.T) { // P13.7
	for kind := range 256 {
		if kind != int(api.Mb16) {
			wantBlocks(t, api.Mb{Kind: uint8(kind)}, nil)
		}
	}
	for kind := range uint8(8) {
		m := valid(kind, 1)
		m.Cbp, m.Qp, m.Blocks = 0, 0, nil
		if kind == api.Mb16 {
			wantCheck(t, m, false, 1, api.ErrArg)
			continue
		}
		wantCheck(t, m, false, 1, api.OK)
		m.Blocks = [][]int{{}}
		wantCheck(t, m, false, 1, api.ErrArg)
	}
}
