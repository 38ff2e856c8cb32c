package mb_test

import (
	"math"
	"reflect"
	"strconv"
	"strings"

	"spindle/api"
)

// upTo is the error for a number from 0 on.
func upTo(n, most int) api.Errno {
	if n > most {
		return api.ErrRange
	}
	return api.OK
}

// subs yields all Subs that are valid.
func subs(yield func(sub [4]uint8)) {
	for n := range 256 {
		yield([4]uint8{uint8(n) & 3, uint8(n) >> 2 & 3, uint8(n) >> 4 & 3, uint8(n) >> 6})
	}
}

// all yields blocks of all categories, and some that there are not.
func all(yield func(c api.Coded)) {
	for cat := range uint8(7) {
		for comp := range uint8(3) {
			for k := -1; k < 18; k++ {
				yield(api.Coded{Cat: cat, Comp: comp, K: k})
			}
		}
	}
}

// coded is which blocks are coded by the definitions of S4 and P13.2.
func coded(kind uint8, cbp int) []api.Coded {
	var l []api.Coded
	if kind == 2 || kind >= 7 {
		return l
	}
	luma := uint8(2)
	if kind == 1 {
		l = append(l, api.Coded{})
		luma = 1
	}
	for i, bit := range []int{1, 2, 4, 8} {
		if cbp&bit != 0 {
			l = append(l, api.Coded{Cat: luma, K: 4 * i}, api.Coded{Cat: luma, K: 4*i + 1},
				api.Coded{Cat: luma, K: 4*i + 2}, api.Coded{Cat: luma, K: 4*i + 3})
		}
	}
	if cbp >= 16 {
		l = append(l, api.Coded{Cat: 3, Comp: 0}, api.Coded{Cat: 3, Comp: 1})
	}
	if cbp >= 32 && cbp < 48 {
		for n := range 8 {
			l = append(l, api.Coded{Cat: 4, Comp: uint8(n / 4), K: n % 4})
		}
	}
	return l
}

// zeros are blocks of zeros, as many as are coded.
func zeros(m api.Mb) [][]int {
	var l [][]int
	for _, c := range coded(m.Kind, int(m.Cbp)) {
		l = append(l, make([]int, [...]int{16, 15, 16, 4, 15}[c.Cat]))
	}
	return l
}

// filled is a macroblock that has this Cbp, with different coefficients and a Qp if it has one.
func filled(m api.Mb, cbp uint8) api.Mb {
	m.Cbp = cbp
	if m.Kind == api.Mb16 || cbp != 0 {
		m.Qp = 25 - int(cbp)
	}
	m.Blocks = zeros(m)
	for i, b := range m.Blocks {
		for j := range b {
			b[j] = 100*i + j - 1000
		}
	}
	return m
}

// intra is a valid macroblock of a kind that is intra.
func intra(kind, cbp uint8) api.Mb {
	m := api.Mb{Kind: kind, Chroma: 2}
	switch kind {
	case api.MbPcm:
		return api.Mb{Kind: kind, Pcm: strings.Repeat("\x00\x01\xff", 128)}
	case api.Mb16:
		m.Mode = 1
	case api.MbN:
		for i := range m.Preds {
			m.Preds[i] = uint8(i) % 9
		}
	}
	return filled(m, cbp)
}

// inter is a valid macroblock of a kind with partitions, if sub is valid.
func inter(kind uint8, sub [4]uint8, refs int, cbp uint8) api.Mb {
	m := api.Mb{Kind: kind}
	n := [...]int{1, 2, 2, 4}[kind-api.MbP1]
	for i := range n {
		m.Refs = append(m.Refs, (i+refs-1)%refs)
	}
	if kind == api.MbP4 {
		m.Sub = sub
		n = 0
		for _, s := range sub {
			n += [...]int{1, 2, 2, 4}[s&3]
		}
	}
	for i := range n {
		m.Mvds = append(m.Mvds, api.Vec{X: 10*i - 50, Y: 70 - 10*i})
	}
	return filled(m, cbp)
}

// valid is a valid macroblock of a kind with all blocks, or with those that it can have.
func valid(kind uint8, refs int) api.Mb {
	switch {
	case kind <= api.MbPcm:
		return intra(kind, 47)
	case kind == api.MbSkip:
		return api.Mb{Kind: kind}
	}
	return inter(kind, [4]uint8{0, 1, 2, 3}, refs, 47)
}

// samples yields valid macroblocks of all kinds, with numbers of reference indices for which they are.
func samples(yield func(m api.Mb, refs int)) {
	for _, cbp := range []uint8{0, 15, 16, 31, 32, 47} {
		yield(intra(api.Mb16, cbp), 1)
	}
	for _, cbp := range []uint8{0, 4, 15, 18, 41, 47} {
		yield(intra(api.MbN, cbp), 32)
		yield(inter(api.MbP1, [4]uint8{}, 1, cbp), 1)
		yield(inter(api.MbP3, [4]uint8{}, 32, cbp), 32)
		yield(inter(api.MbP4, [4]uint8{3, 0, 1, 2}, 3, cbp), 3)
	}
	yield(inter(api.MbP2, [4]uint8{}, 2, 1), 2)
	yield(inter(api.MbP4, [4]uint8{3, 3, 3, 3}, 32, 0), 32)
	yield(inter(api.MbP4, [4]uint8{}, 1, 0), 1)
	yield(intra(api.MbPcm, 0), 2)
	yield(api.Mb{Kind: api.MbSkip}, 4)
}

// wrong is a macroblock whose fields are all set, with numbers that no macroblock has.
func wrong(kind uint8) api.Mb {
	m := api.Mb{
		Kind: kind, Mode: 255, Chroma: 255, Cbp: 255, Qp: -99, Sub: [4]uint8{9, 8, 7, 255}, Pcm: "pcm",
		Refs: []int{math.MinInt, 5}, Mvds: []api.Vec{{X: math.MaxInt, Y: 3}, {X: 4, Y: math.MinInt}},
		Blocks: [][]int{{}, {1, math.MaxInt}, {3, 3, 3}, {math.MinInt}},
	}
	for i := range m.Preds {
		m.Preds[i] = 255
	}
	return m
}

// fault is a change of a field that makes a valid macroblock invalid.
type fault struct {
	field int // in the order of the chapter
	put   func(m *api.Mb)
	want  api.Errno
}

// faults are faults of all fields of a valid macroblock, in the order of their fields.
func faults(m api.Mb, refs int) []fault {
	var l []fault
	add := func(field int, want api.Errno, put func(m *api.Mb)) {
		l = append(l, fault{field, put, want})
	}
	// bytes adds numbers that are out of range; or, if the field is not there, such as are not zero.
	bytes := func(field int, has bool, most uint8, at func(m *api.Mb) *uint8) {
		first, want := most+1, api.ErrRange
		if !has {
			first, want = 1, api.ErrArg
		}
		for _, n := range []uint8{first, 255} {
			add(field, want, func(m *api.Mb) { *at(m) = n })
		}
	}
	bytes(0, m.Kind == 1, 3, func(m *api.Mb) *uint8 { return &m.Mode })
	bytes(1, m.Kind <= 1, 3, func(m *api.Mb) *uint8 { return &m.Chroma })
	for _, i := range []int{0, 7, 15} {
		bytes(2, m.Kind == 0, 8, func(m *api.Mb) *uint8 { return &m.Preds[i] })
	}
	for i := range m.Sub {
		bytes(3, m.Kind == 6, 3, func(m *api.Mb) *uint8 { return &m.Sub[i] })
	}
	l = append(l, refFaults(m, refs)...)
	l = append(l, mvdFaults(m)...)
	hasCbp := m.Kind != 2 && m.Kind != 7
	bytes(6, hasCbp, 47, func(m *api.Mb) *uint8 { return &m.Cbp })
	if m.Kind == 1 {
		for _, cbp := range []uint8{1, 14, 17, 46} {
			add(6, api.ErrRange, func(m *api.Mb) { m.Cbp = cbp })
		}
	}
	for _, qp := range []int{-27, 26, math.MinInt, math.MaxInt} {
		if m.Kind == 1 || m.Cbp != 0 {
			add(7, api.ErrRange, func(m *api.Mb) { m.Qp = qp })
		} else {
			add(7, api.ErrArg, func(m *api.Mb) { m.Qp = qp })
		}
	}
	l = append(l, blockFaults(m)...)
	for _, pcm := range []string{strings.Repeat("p", 383), strings.Repeat("p", 385), "p"} {
		add(9, api.ErrArg, func(m *api.Mb) { m.Pcm = pcm })
	}
	if m.Kind == 2 {
		add(9, api.ErrArg, func(m *api.Mb) { m.Pcm = "" })
	} else {
		add(9, api.ErrArg, func(m *api.Mb) { m.Pcm = strings.Repeat("p", 384) })
	}
	return l
}

func refFaults(m api.Mb, refs int) []fault {
	l := []fault{
		{4, func(m *api.Mb) { m.Refs = append(m.Refs, 0) }, api.ErrArg},
		{4, func(m *api.Mb) { m.Refs = append(m.Refs, -1) }, api.ErrArg}, // the number of elements first
	}
	if len(m.Refs) == 0 {
		return l
	}
	l = append(l,
		fault{4, func(m *api.Mb) { m.Refs = nil }, api.ErrArg},
		fault{4, func(m *api.Mb) { m.Refs = m.Refs[1:] }, api.ErrArg})
	for i := range m.Refs {
		for _, ref := range []int{-1, refs, math.MinInt, math.MaxInt} {
			l = append(l, fault{4, func(m *api.Mb) { m.Refs[i] = ref }, api.ErrRange})
		}
	}
	return l
}

func mvdFaults(m api.Mb) []fault {
	l := []fault{
		{5, func(m *api.Mb) { m.Mvds = append(m.Mvds, api.Vec{}) }, api.ErrArg},
		{5, func(m *api.Mb) { m.Mvds = append(m.Mvds, api.Vec{X: math.MinInt}) }, api.ErrArg}, // likewise
	}
	if len(m.Mvds) == 0 {
		return l
	}
	l = append(l,
		fault{5, func(m *api.Mb) { m.Mvds = nil }, api.ErrArg},
		fault{5, func(m *api.Mb) { m.Mvds = m.Mvds[1:] }, api.ErrArg})
	for i := range m.Mvds {
		for _, n := range []int{-api.MaxMvd - 1, api.MaxMvd + 1, math.MinInt, math.MaxInt} {
			l = append(l,
				fault{5, func(m *api.Mb) { m.Mvds[i].X = n }, api.ErrRange},
				fault{5, func(m *api.Mb) { m.Mvds[i].Y = n }, api.ErrRange})
		}
	}
	return l
}

func blockFaults(m api.Mb) []fault {
	l := []fault{
		{8, func(m *api.Mb) { m.Blocks = append(m.Blocks, nil) }, api.ErrArg},
		{8, func(m *api.Mb) { m.Blocks = append(m.Blocks, make([]int, 16)) }, api.ErrArg},
	}
	if len(m.Blocks) == 0 {
		return l
	}
	l = append(l,
		fault{8, func(m *api.Mb) { m.Blocks = nil }, api.ErrArg},
		fault{8, func(m *api.Mb) { m.Blocks = m.Blocks[:len(m.Blocks)-1] }, api.ErrArg})
	for i, b := range m.Blocks {
		l = append(l,
			fault{8, func(m *api.Mb) { m.Blocks[i] = nil }, api.ErrArg},
			fault{8, func(m *api.Mb) { m.Blocks[i] = append(m.Blocks[i], 0) }, api.ErrArg},
			fault{8, func(m *api.Mb) { m.Blocks[i] = m.Blocks[i][1:] }, api.ErrArg})
		for n, level := range []int{-api.MaxLevel - 1, api.MaxLevel + 1, math.MinInt, math.MaxInt} {
			j := (i + n*(len(b)-1)) % len(b)
			l = append(l, fault{8, func(m *api.Mb) { m.Blocks[i][j] = level }, api.ErrRange})
		}
	}
	return l
}

// clone is an independent equal macroblock, made without package mb.
func clone(m api.Mb) api.Mb {
	m.Refs = append([]int(nil), m.Refs...)
	m.Mvds = append([]api.Vec(nil), m.Mvds...)
	var blocks [][]int
	for _, b := range m.Blocks {
		blocks = append(blocks, append([]int(nil), b...))
	}
	m.Blocks = blocks
	return m
}

// same reports whether two macroblocks are equal, without package mb.
func same(a, b api.Mb) bool {
	return reflect.DeepEqual(clone(a), clone(b))
}

// scribble overwrites all memory that a macroblock refers to.
func scribble(m api.Mb) {
	for i := range m.Refs[:cap(m.Refs)] {
		m.Refs[:cap(m.Refs)][i] = -7
	}
	for i := range m.Mvds[:cap(m.Mvds)] {
		m.Mvds[:cap(m.Mvds)][i] = api.Vec{X: -7, Y: -7}
	}
	blocks := m.Blocks[:cap(m.Blocks)]
	for i, b := range blocks {
		for j := range b[:cap(b)] {
			b[:cap(b)][j] = -7
		}
		blocks[i] = []int{-7}
	}
}

// text is a macroblock in short.
func text(m api.Mb) string {
	s := "kind " + strconv.Itoa(int(m.Kind))
	for _, f := range []struct {
		name string
		n    int
	}{
		{"Mode", int(m.Mode)}, {"Chroma", int(m.Chroma)}, {"Cbp", int(m.Cbp)}, {"Qp", m.Qp},
		{"Blocks", len(m.Blocks)}, {"Pcm", len(m.Pcm)},
	} {
		s += ", " + f.name + " " + strconv.Itoa(f.n)
	}
	s += ", Preds"
	for _, n := range m.Preds {
		s += " " + strconv.Itoa(int(n))
	}
	s += ", Sub"
	for _, n := range m.Sub {
		s += " " + strconv.Itoa(int(n))
	}
	s += ", Refs"
	for _, n := range m.Refs {
		s += " " + strconv.Itoa(n)
	}
	s += ", Mvds"
	for _, v := range m.Mvds {
		s += " " + strconv.Itoa(v.X) + "/" + strconv.Itoa(v.Y)
	}
	return s
}
