package sets_test

import (
	"math"
	"testing"

	"spindle/api"
	"spindle/pps"
	"spindle/sets"
	"spindle/sps"
)

// numbers yields the same numbers in every run.
type numbers uint64

func (x *numbers) below(n int) int {
	*x ^= *x << 13
	*x ^= *x >> 7
	*x ^= *x << 17
	return int(uint64(*x) % uint64(n))
}

// sequence returns the valid sequence parameter set S(id) of the examples.
func sequence(id int) api.Sps {
	return api.Sps{ID: id, FrameBits: 4, PocBits: 4, Refs: 1, Width: 1, Height: 1}
}

// picture returns the valid picture parameter set P(id, sps) of the examples.
func picture(id, sps int) api.Pps {
	return api.Pps{ID: id, Sps: sps, Refs: 1, Refs1: 1}
}

func (x *numbers) sequence(id int) api.Sps {
	s := api.Sps{Profile: uint8(x.below(256)), Flags: uint8(x.below(256)), Level: uint8(x.below(256)), ID: id,
		FrameBits: 4 + x.below(13), PocBits: 4 + x.below(13), Refs: x.below(17), Width: 1 + x.below(128)}
	s.Height = 1 + x.below(min(128, 8160/s.Width))
	return s
}

func (x *numbers) picture(id, sps int) api.Pps {
	return api.Pps{ID: id, Sps: sps, Cabac: x.below(2) == 1, Refs: 1 + x.below(32), Refs1: 1 + x.below(32), Qp: x.below(52) - 26,
		Qs: x.below(52) - 26, Chroma: x.below(25) - 12, Deblock: x.below(2) == 1, Intra: x.below(2) == 1}
}

// brokenSequences returns parameter sets that are not valid, each for one reason, and otherwise would be put at this ID.
func brokenSequences(id int) []api.Sps {
	var l []api.Sps
	add := func(change func(x *api.Sps)) {
		x := sequence(id)
		x.Profile = 1
		change(&x)
		l = append(l, x)
	}
	for _, v := range []int{math.MinInt, -1, 32, 32 + id, 1<<32 + id, math.MaxInt} {
		add(func(x *api.Sps) { x.ID = v })
	}
	add(func(x *api.Sps) { x.FrameBits = 3 })
	add(func(x *api.Sps) { x.FrameBits = 17 })
	add(func(x *api.Sps) { x.PocBits = 3 })
	add(func(x *api.Sps) { x.PocBits = 17 })
	add(func(x *api.Sps) { x.Refs = -1 })
	add(func(x *api.Sps) { x.Refs = 17 })
	add(func(x *api.Sps) { x.Width = 0 })
	add(func(x *api.Sps) { x.Width = 129 })
	add(func(x *api.Sps) { x.Height = 0 })
	add(func(x *api.Sps) { x.Height = 129 })
	add(func(x *api.Sps) { x.Width, x.Height = 128, 64 })
	return l
}

// brokenPictures returns parameter sets that are not valid, each for one reason, and otherwise would be put at this ID.
func brokenPictures(id int) []api.Pps {
	var l []api.Pps
	add := func(change func(x *api.Pps)) {
		x := picture(id, 1)
		x.Cabac = true
		change(&x)
		l = append(l, x)
	}
	for _, v := range []int{math.MinInt, -1, 32, 32 + id, 1<<32 + id, math.MaxInt} {
		add(func(x *api.Pps) { x.ID = v })
		add(func(x *api.Pps) { x.Sps = v })
	}
	add(func(x *api.Pps) { x.Refs = 0 })
	add(func(x *api.Pps) { x.Refs = 33 })
	add(func(x *api.Pps) { x.Refs1 = 0 })
	add(func(x *api.Pps) { x.Refs1 = 33 })
	add(func(x *api.Pps) { x.Qp = -27 })
	add(func(x *api.Pps) { x.Qp = 26 })
	add(func(x *api.Pps) { x.Qs = -27 })
	add(func(x *api.Pps) { x.Qs = 26 })
	add(func(x *api.Pps) { x.Chroma = -13 })
	add(func(x *api.Pps) { x.Chroma = 13 })
	return l
}

// model is what a store has, as chapter 8 says. No valid parameter set is zero: those are not there.
type model struct {
	sequences [32]api.Sps
	pictures  [32]api.Pps
}

func (m *model) get(id int) (api.Pps, api.Sps, api.Errno) {
	if id < 0 || id > 31 {
		return api.Pps{}, api.Sps{}, api.ErrRange
	}
	p := m.pictures[id]
	s := m.sequences[p.Sps]
	if p == (api.Pps{}) || s == (api.Sps{}) {
		return api.Pps{}, api.Sps{}, api.ErrNone
	}
	return p, s, api.OK
}

func wantGet(t *testing.T, s *sets.Store, id int, p api.Pps, x api.Sps, err api.Errno) {
	t.Helper()
	if q, y, e := s.Get(id); q != p || y != x || e != err {
		t.Fatalf("Get(%d) = %+v, %+v, %d; want %+v, %+v, %d", id, q, y, e, p, x, err)
	}
}

func wantError(t *testing.T, s *sets.Store, id int, err api.Errno) {
	t.Helper()
	wantGet(t, s, id, api.Pps{}, api.Sps{}, err)
}

// wantModel checks all that can be seen of a store now.
func wantModel(t *testing.T, s *sets.Store, m *model) {
	t.Helper()
	for id := -1; id <= 32; id++ {
		p, x, e := m.get(id)
		wantGet(t, s, id, p, x, e)
	}
}

// wantAll checks all that a store has, also what is not named or has no name: it asks copies that have more.
func wantAll(t *testing.T, s *sets.Store, m *model) {
	t.Helper()
	wantModel(t, s, m)
	for id := range 32 {
		c, n := s.Copy(), *m
		n.sequences[id] = sequence(id)
		putSequence(t, c, n.sequences[id], api.OK)
		wantModel(t, c, &n)
		c, n = s.Copy(), *m
		n.pictures[31-id] = picture(31-id, id)
		putPicture(t, c, n.pictures[31-id], api.OK)
		wantModel(t, c, &n)
	}
	wantModel(t, s, m)
}

func putSequence(t *testing.T, s *sets.Store, x api.Sps, err api.Errno) {
	t.Helper()
	if e := s.PutSps(x); e != err {
		t.Fatalf("PutSps(%+v) = %d; want %d", x, e, err)
	}
}

func putPicture(t *testing.T, s *sets.Store, x api.Pps, err api.Errno) {
	t.Helper()
	if e := s.PutPps(x); e != err {
		t.Fatalf("PutPps(%+v) = %d; want %d", x, e, err)
	}
}

// filled returns a store with some parameter sets, and what it has.
func (x *numbers) filled(t *testing.T) (*sets.Store, *model) {
	t.Helper()
	s, m := sets.New(), &model{}
	for id := range 32 {
		if x.below(2) == 0 {
			m.sequences[id] = x.sequence(id)
			putSequence(t, s, m.sequences[id], api.OK)
		}
		if x.below(2) == 0 {
			m.pictures[id] = x.picture(id, x.below(32))
			putPicture(t, s, m.pictures[id], api.OK)
		}
	}
	return s, m
}

func TestExamples(t *testing.T) { // P8.1, P8.2, P8.3
	s := sets.New()
	wantError(t, s, 0, api.ErrNone)
	putPicture(t, s, picture(0, 3), api.OK)
	wantError(t, s, 0, api.ErrNone)
	putSequence(t, s, sequence(3), api.OK)
	wantGet(t, s, 0, picture(0, 3), sequence(3), api.OK)
	putPicture(t, s, picture(0, 4), api.OK)
	wantError(t, s, 0, api.ErrNone)
	wantError(t, s, -1, api.ErrRange)
	wantError(t, s, 32, api.ErrRange)
	putSequence(t, s, api.Sps{}, api.ErrRange)
}

func TestNewIsEmpty(t *testing.T) { // P8.1: also when there is another store that has all
	full := sets.New()
	for id := range 32 {
		putSequence(t, full, sequence(id), api.OK)
		putPicture(t, full, picture(id, id), api.OK)
	}
	s := sets.New()
	if s == nil || s == full {
		t.Fatal("New returns no new store")
	}
	wantAll(t, s, &model{})
	putSequence(t, s, sequence(5), api.OK)
	wantAll(t, sets.New(), &model{})
	wantGet(t, full, 5, picture(5, 5), sequence(5), api.OK)
}

func TestNilStore(t *testing.T) { // P8.2, P8.3, P8.4, R5: before all other errors
	var s *sets.Store
	putSequence(t, s, sequence(0), api.ErrNil)
	putSequence(t, s, api.Sps{}, api.ErrNil)
	putPicture(t, s, picture(0, 0), api.ErrNil)
	putPicture(t, s, api.Pps{}, api.ErrNil)
	for _, id := range []int{math.MinInt, -1, 0, 31, 32, math.MaxInt} {
		wantError(t, s, id, api.ErrNil)
	}
	if s.Copy() != nil {
		t.Error("Copy of nil is not nil")
	}
}

func TestStoreOfZero(t *testing.T) { // R1: no store of New, but nothing panics
	putSequence(t, new(sets.Store), sequence(0), api.OK)
	putPicture(t, new(sets.Store), picture(0, 0), api.OK)
	wantError(t, new(sets.Store), 0, api.ErrNone)
	wantError(t, new(sets.Store).Copy(), 0, api.ErrNone)
}

func TestEveryPair(t *testing.T) { // P8.2, P8.3: each picture parameter set names each sequence parameter set, which comes before or after it
	n := numbers(1)
	for i := range 32 {
		for k := range 32 {
			p, x := n.picture(i, k), n.sequence(k)
			want := &model{}
			want.pictures[i] = p
			a := sets.New()
			putPicture(t, a, p, api.OK)
			wantModel(t, a, want)
			want.sequences[k] = x
			putSequence(t, a, x, api.OK)
			wantModel(t, a, want)

			b := sets.New()
			putSequence(t, b, x, api.OK)
			wantModel(t, b, &model{sequences: want.sequences})
			putPicture(t, b, p, api.OK)
			wantModel(t, b, want)
		}
	}
}

func TestManyNameOne(t *testing.T) { // P8.3: with its latest fields
	n := numbers(2)
	s, m := sets.New(), &model{}
	for id := range 32 {
		m.pictures[id] = n.picture(id, 7)
		putPicture(t, s, m.pictures[id], api.OK)
	}
	for range 10 {
		m.sequences[7] = n.sequence(7)
		putSequence(t, s, m.sequences[7], api.OK)
		wantModel(t, s, m)
	}
}

func TestReplaced(t *testing.T) { // P8.2: as a whole, and nothing else
	n := numbers(3)
	for range 50 {
		s, m := n.filled(t)
		for range 20 {
			id := n.below(32)
			m.sequences[id] = n.sequence(id)
			putSequence(t, s, m.sequences[id], api.OK)
			wantModel(t, s, m)
			id = n.below(32)
			m.pictures[id] = n.picture(id, n.below(32))
			putPicture(t, s, m.pictures[id], api.OK)
			wantModel(t, s, m)
		}
		wantAll(t, s, m)
	}
}

func TestRefused(t *testing.T) { // P8.2, P8.6: the error of Check, and nothing changes
	n := numbers(4)
	s, m := n.filled(t)
	for id := range 32 {
		for _, x := range brokenSequences(id) {
			if sps.Check(x) == api.OK {
				t.Fatalf("%+v is valid", x)
			}
			putSequence(t, s, x, sps.Check(x))
			putSequence(t, s, x, api.ErrRange)
			wantModel(t, s, m)
		}
		for _, x := range brokenPictures(id) {
			if pps.Check(x) == api.OK {
				t.Fatalf("%+v is valid", x)
			}
			putPicture(t, s, x, pps.Check(x))
			putPicture(t, s, x, api.ErrRange)
			wantModel(t, s, m)
		}
	}
	putSequence(t, s, api.Sps{}, api.ErrRange)
	putPicture(t, s, api.Pps{}, api.ErrRange)
	wantAll(t, s, m)
}

func TestRefusedByNew(t *testing.T) { // P8.2, P8.6: a store without parameter sets stays without them
	s := sets.New()
	for _, x := range brokenSequences(0) {
		putSequence(t, s, x, api.ErrRange)
	}
	for _, x := range brokenPictures(0) {
		putPicture(t, s, x, api.ErrRange)
	}
	wantAll(t, s, &model{})
}

func TestGetRange(t *testing.T) { // P8.3: whatever the store has; the limits are in
	s := sets.New()
	others := []int{math.MinInt, math.MinInt32, -1 << 32, -32, -2, -1, 32, 33, 63, 64, 256, 1 << 32, 1<<32 + 31, math.MaxInt}
	for _, id := range others {
		wantError(t, s, id, api.ErrRange)
	}
	for id := range 32 {
		putSequence(t, s, sequence(id), api.OK)
		putPicture(t, s, picture(id, 31-id), api.OK)
	}
	for _, id := range others {
		wantError(t, s, id, api.ErrRange)
	}
	wantGet(t, s, 0, picture(0, 31), sequence(31), api.OK)
	wantGet(t, s, 31, picture(31, 0), sequence(0), api.OK)
}

func TestCopyIsEqual(t *testing.T) { // P8.4
	n := numbers(5)
	for range 20 {
		s, m := n.filled(t)
		c := s.Copy()
		if c == nil || c == s {
			t.Fatal("Copy returns no other store")
		}
		wantAll(t, c, m)
		wantAll(t, c.Copy(), m)
	}
	wantAll(t, sets.New().Copy(), &model{})
}

func TestCopyIsIndependent(t *testing.T) { // P8.4: in both directions, with any number of parameter sets of each kind
	put := func(s *sets.Store, m *model, id int) {
		t.Helper()
		m.sequences[id], m.pictures[id] = sequence(id), picture(id, 31-id)
		m.sequences[id].Level, m.pictures[id].Intra = 20, true
		putSequence(t, s, m.sequences[id], api.OK)
		putPicture(t, s, m.pictures[id], api.OK)
	}
	n := numbers(6)
	for round := range 40 {
		s, before := sets.New(), &model{}
		if round > 0 {
			s, before = n.filled(t)
		}
		c, after := s.Copy(), *before
		for id := range 32 {
			put(c, &after, id)
			wantModel(t, s, before)
		}
		wantAll(t, c, &after)
		wantAll(t, s, before)

		c, after = s.Copy(), *before
		for id := range 32 {
			put(s, before, id)
			wantModel(t, c, &after)
		}
		wantAll(t, c, &after)
		wantAll(t, s, before)
	}
}

// call is PutSps, or PutPps if the picture parameter set is not zero.
type call struct {
	s api.Sps
	p api.Pps
}

func (c call) on(t *testing.T, s *sets.Store) {
	t.Helper()
	if c.p != (api.Pps{}) {
		putPicture(t, s, c.p, api.OK)
		return
	}
	putSequence(t, s, c.s, api.OK)
}

func (x *numbers) call() call {
	if x.below(2) == 0 {
		return call{s: x.sequence(x.below(32))}
	}
	return call{p: x.picture(x.below(32), x.below(32))}
}

func TestOnlyTheLatestMatter(t *testing.T) { // P8.5: calls before the latest ones, and calls for other IDs, in any order
	n := numbers(7)
	for range 2000 {
		i, k := n.below(32), n.below(32)
		p, x := n.picture(i, k), n.sequence(k)
		calls := []call{{p: p}, {s: x}}
		if n.below(2) == 0 {
			calls[0], calls[1] = calls[1], calls[0]
		}
		s := sets.New()
		for range n.below(40) {
			n.call().on(t, s)
		}
		for _, c := range calls {
			c.on(t, s)
			for range n.below(40) {
				if other := n.call(); (other.p == (api.Pps{}) || other.p.ID != i) && (other.s == (api.Sps{}) || other.s.ID != k) {
					other.on(t, s)
				}
			}
		}
		wantGet(t, s, i, p, x, api.OK)
	}
}

func TestOrderMakesNoDifference(t *testing.T) { // P8.5: of calls that are not for the same ID and kind
	n := numbers(8)
	for range 200 {
		want := &model{}
		var calls []call
		for id := range 32 {
			want.sequences[id], want.pictures[id] = n.sequence(id), n.picture(id, n.below(32))
			calls = append(calls, call{s: want.sequences[id]}, call{p: want.pictures[id]})
		}
		for i := range calls {
			k := i + n.below(len(calls)-i)
			calls[i], calls[k] = calls[k], calls[i]
		}
		s := sets.New()
		for _, c := range calls {
			c.on(t, s)
		}
		wantModel(t, s, want)
	}
}

func TestTwiceIsOnce(t *testing.T) { // P8.6: also with calls between them
	n := numbers(9)
	for range 200 {
		once, twice := sets.New(), sets.New()
		want := &model{}
		for range n.below(60) {
			c := n.call()
			if c.p != (api.Pps{}) {
				want.pictures[c.p.ID] = c.p
			} else {
				want.sequences[c.s.ID] = c.s
			}
			c.on(t, once)
			c.on(t, twice)
			twice.Get(n.below(32))
			c.on(t, twice)
		}
		wantModel(t, once, want)
		wantModel(t, twice, want)
	}
}

// step makes a call of any kind, some of which return errors, and says what the store has after it.
func (x *numbers) step(t *testing.T, s *sets.Store, m *model) {
	t.Helper()
	id := x.below(32)
	switch x.below(6) {
	case 0, 1:
		m.sequences[id] = x.sequence(id)
		putSequence(t, s, m.sequences[id], api.OK)
	case 2, 3:
		m.pictures[id] = x.picture(id, x.below(32))
		putPicture(t, s, m.pictures[id], api.OK)
	case 4:
		l := brokenSequences(id)
		putSequence(t, s, l[x.below(len(l))], api.ErrRange)
	case 5:
		l := brokenPictures(id)
		putPicture(t, s, l[x.below(len(l))], api.ErrRange)
	}
}

func TestManyStores(t *testing.T) { // P8.2 to P8.6, R6: any calls on stores and copies of them, side by side
	n := numbers(10)
	stores := []*sets.Store{sets.New(), sets.New(), sets.New(), sets.New()}
	models := make([]model, len(stores))
	for range 20000 {
		i := n.below(len(stores))
		n.step(t, stores[i], &models[i])
		if n.below(20) == 0 {
			k := n.below(len(stores))
			stores[k], models[k] = stores[i].Copy(), models[i]
		}
		if n.below(200) == 0 {
			stores[i], models[i] = sets.New(), model{}
		}
		k := n.below(len(stores))
		wantModel(t, stores[k], &models[k])
	}
	for i := range stores {
		wantAll(t, stores[i], &models[i])
	}
}

func TestGetChangesNothing(t *testing.T) { // P8.3, P8.6, R6: whatever it returns, it returns it again
	n := numbers(11)
	s, m := n.filled(t)
	for range 3 {
		for _, id := range []int{math.MinInt, -1, 32, math.MaxInt} {
			wantError(t, s, id, api.ErrRange)
		}
		wantModel(t, s, m)
	}
	wantAll(t, s, m)
}
