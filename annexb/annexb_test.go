package annexb_test

import (
	"slices"
	"strings"
	"testing"

	"spindle/annexb"
	"spindle/api"
)

const start = "\x00\x00\x01"

// fits is the chapter's definition of what may be in a stream, spelt apart from the package.
func fits(u string) bool {
	for i := range max(0, len(u)-2) {
		if u[i] == 0 && u[i+1] == 0 && u[i+2] <= 2 {
			return false
		}
	}
	return len(u) > 0 && u[len(u)-1] != 0
}

// divisions returns every list of units of which a string is a stream: the chapter's definition, tried out.
func divisions(s string) [][]string {
	var all [][]string
	if strings.Trim(s, "\x00") == "" {
		all = append(all, nil)
	}
	for zeros := 0; zeros+4 <= len(s) && strings.Trim(s[:zeros], "\x00") == ""; zeros++ {
		rest, found := strings.CutPrefix(s[zeros:], start)
		if !found {
			continue
		}
		for n := range len(rest) {
			if u := rest[:n+1]; fits(u) {
				for _, l := range divisions(rest[n+1:]) {
					all = append(all, append([]string{u}, l...))
				}
			}
		}
	}
	return all
}

// canonical is the chapter's definition of the canonical stream.
func canonical(l []string) string {
	s := ""
	for i, u := range l {
		if kind := u[0] % 32; i == 0 || kind == 7 || kind == 8 {
			s += "\x00"
		}
		s += start + u
	}
	return s
}

// texts returns all strings of at most n bytes of an alphabet, the shorter ones first.
func texts(letters string, n int) []string {
	all := []string{""}
	last := all
	for range n {
		var next []string
		for _, s := range last {
			for i := range len(letters) {
				next = append(next, s+letters[i:i+1])
			}
		}
		all = append(all, next...)
		last = next
	}
	return all
}

// numbers yields the same numbers in every run.
type numbers uint64

func (x *numbers) below(n int) int {
	*x ^= *x << 13
	*x ^= *x >> 7
	*x ^= *x << 17
	return int(uint64(*x) % uint64(n))
}

// unit returns the bytes of a unit that may be in a stream, of at most n bytes, most of which are small.
func (x *numbers) unit(n int) string {
	for {
		b := make([]byte, 1+x.below(n))
		for i := range b {
			if x.below(2) == 0 {
				b[i] = byte(x.below(10))
			} else if x.below(2) == 0 {
				b[i] = byte(x.below(256))
			}
		}
		if fits(string(b)) {
			return string(b)
		}
	}
}

func (x *numbers) units(n int) []string {
	l := make([]string, x.below(n+1))
	for i := range l {
		l[i] = x.unit(8)
	}
	return l
}

func (x *numbers) zeros(n int) string { return strings.Repeat("\x00", x.below(n+1)) }

func wantSplit(t *testing.T, s string, want []string, err api.Errno) {
	t.Helper()
	if l, e := annexb.Split(s); !slices.Equal(l, want) || e != err {
		t.Fatalf("Split of %s: %d units %s, %d; want %d units %s, %d", short(s), len(l), shorts(l), e, len(want), shorts(want), err)
	}
}

func wantJoin(t *testing.T, l []string, want string, err api.Errno) {
	t.Helper()
	if s, e := annexb.Join(l...); s != want || e != err {
		t.Fatalf("Join of %d units %s: %s, %d; want %s, %d", len(l), shorts(l), short(s), e, short(want), err)
	}
}

// short returns the beginning of a string as hexadecimal numbers.
func short(s string) string {
	const digits = "0123456789abcdef"
	out := ""
	for i := range min(len(s), 40) {
		out += " " + string([]byte{digits[s[i]/16], digits[s[i]%16]})
	}
	if len(s) > 40 {
		out += " .."
	}
	return "[" + out + " ]"
}

func shorts(l []string) string {
	out := ""
	for i := range min(len(l), 8) {
		out += short(l[i])
	}
	return out
}

func TestSplitExamples(t *testing.T) { // P4.1
	nine := []string{"\x09"}
	wantSplit(t, "\x00\x00\x01\x09", nine, api.OK)
	wantSplit(t, "\x00\x00\x00\x00\x01\x09\x00\x00", nine, api.OK)
	two := []string{"\x09", "\x27\x4d"}
	wantSplit(t, "\x00\x00\x01\x09\x00\x00\x01\x27\x4d", two, api.OK)
	wantSplit(t, "\x00\x00\x01\x09\x00\x00\x00\x01\x27\x4d", two, api.OK)
	wantSplit(t, "\x00\x00\x01\x09\x00\x05", []string{"\x09\x00\x05"}, api.OK)
	for _, s := range []string{"", "\x00", "\x00\x00\x00"} {
		wantSplit(t, s, nil, api.OK)
	}
	for _, s := range []string{"\x09", "\x00\x01\x09", "\x00\x00\x01", "\x00\x00\x01\x00\x00\x01\x09", "\x00\x00\x01\x09\x00\x00\x02"} {
		wantSplit(t, s, nil, api.ErrForm)
	}
}

func TestSplitEveryText(t *testing.T) { // P4.1, P4.4: a string is a stream of at most one list, and Split finds it
	all := texts("\x00\x01\x02\x03", 9)
	all = append(all, texts("\x00\x01\xff", 11)...)
	for _, s := range all {
		switch d := divisions(s); len(d) {
		case 0:
			wantSplit(t, s, nil, api.ErrForm)
		case 1:
			wantSplit(t, s, d[0], api.OK)
		default:
			t.Fatalf("%s has %d lists of units", short(s), len(d))
		}
	}
}

func TestSplitTextsOfParts(t *testing.T) { // P4.1: longer ones, with many start codes
	x := numbers(1)
	parts := []string{"\x00", "\x00\x00", start, start, start, "\x09", "\x09", "\x27\x4d", "\x01", "\x00\x05", "\x05\x00\x00\x03"}
	streams := 0
	for range 30000 {
		s := ""
		for range x.below(14) {
			s += parts[x.below(len(parts))]
		}
		switch d := divisions(s); len(d) {
		case 0:
			wantSplit(t, s, nil, api.ErrForm)
		case 1:
			streams++
			wantSplit(t, s, d[0], api.OK)
		default:
			t.Fatalf("%s has %d lists of units", short(s), len(d))
		}
	}
	if streams < 1000 || streams > 29000 {
		t.Fatalf("%d strings are streams", streams)
	}
}

func TestEveryByte(t *testing.T) { // P4.1, P4.2: any byte is allowed where it is no part of what is forbidden
	for i := range 256 {
		b := string([]byte{byte(i)})
		for _, u := range []string{b, b + "\x09", "\x09" + b, "\x00" + b, "\x00" + b + "\x09", "\x00\x00" + b, "\x00\x00" + b + "\x09", "\x09\x00\x00" + b + "\x09"} {
			if fits(u) {
				wantSplit(t, start+u, []string{u}, api.OK)
				wantJoin(t, []string{u}, "\x00"+start+u, api.OK)
			} else {
				wantJoin(t, []string{u}, "", api.ErrForm)
			}
		}
		if i == 0 {
			continue
		}
		for _, before := range []string{b, b + "\x00", "\x00" + b, "\x00\x00\x00" + b} {
			wantSplit(t, before+start+"\x09", nil, api.ErrForm)
		}
		wantSplit(t, b, nil, api.ErrForm)
	}
}

func TestForbiddenAtEveryPlace(t *testing.T) { // P4.1, P4.2: in the first, a middle, and the last unit
	for n := range 4 {
		for m := range 4 {
			for _, bad := range []string{"", "\x00", "\x09\x00", "\x09\x00\x00", "\x00\x00\x00\x09", "\x00\x00\x01", "\x00\x00\x01\x09", "\x00\x00\x02", "\x00\x00\x02\x09", "\x09\x00\x00\x00\x09", "\x09\x00\x00\x02\x09"} {
				l := slices.Concat(slices.Repeat([]string{"\x05"}, n), []string{bad}, slices.Repeat([]string{"\x06\x07"}, m))
				wantJoin(t, l, "", api.ErrForm)
			}
			for _, bad := range []string{"", "\x00", "\x00\x00\x00\x09", "\x00\x00\x02", "\x09\x00\x00\x02\x09", "\x09\x00\x00\x00\x02", "\x09\x00\x00\x00\x03"} {
				s := strings.Repeat(start+"\x05", n) + start + bad + strings.Repeat(start+"\x06\x07", m)
				wantSplit(t, s, nil, api.ErrForm)
			}
		}
	}
}

func TestEmulationIsNotLookedAt(t *testing.T) { // P4.1, P4.2: nothing else is asked of the bytes of units
	for _, u := range []string{"\x09\x00\x00\x03", "\x09\x00\x00\x03\x04", "\x00\x00\x04", "\x00\x09", "\xff", "\x80\x00\x00\xff", "\x01", "\x00\x01", "\x00\x00\x03"} {
		wantSplit(t, start+u, []string{u}, api.OK)
		wantJoin(t, []string{u}, "\x00"+start+u, api.OK)
	}
}

func TestSplitLengths(t *testing.T) { // P4.1: ErrLong comes first, whatever the bytes are
	zeros := strings.Repeat("\x00", api.MaxStream)
	for _, x := range []struct {
		s    string
		want []string
		e    api.Errno
	}{
		{zeros, nil, api.OK},
		{start + "\x09" + zeros[4:], []string{"\x09"}, api.OK},
		{zeros[2:] + "\x01\x09", []string{"\x09"}, api.OK},
		{"\x09" + zeros[1:], nil, api.ErrForm},
		{start + zeros[3:], nil, api.ErrForm},
		{zeros[1:] + "\x02", nil, api.ErrForm},
	} {
		wantSplit(t, x.s, x.want, x.e)
		wantSplit(t, x.s+"\x00", nil, api.ErrLong)
		wantSplit(t, "\x00"+x.s, nil, api.ErrLong)
		wantSplit(t, x.s+"\x09", nil, api.ErrLong)
	}
}

func TestSplitLongUnits(t *testing.T) { // P4.1
	for _, part := range []string{"\x09", "\x00\x00\x03", "\x00\x05", "\x01\x00", "\x00\x00\xff"} {
		u := strings.Repeat(part, (api.MaxStream-8)/len(part)) + "\x01"
		wantSplit(t, start+u, []string{u}, api.OK)
		wantJoin(t, []string{u}, "\x00"+start+u, api.OK)
	}
}

func TestSplitManyUnits(t *testing.T) { // P4.1: ErrForm, wherever it comes from, is before too many units
	for _, one := range []string{start + "\x09", "\x00" + start + "\x07\x00", start + "\x01\x00\x05\x00\x00"} {
		u := strings.Trim(one, "\x00")[1:]
		many := strings.Repeat(one, api.MaxNals)
		wantSplit(t, many, slices.Repeat([]string{u}, api.MaxNals), api.OK)
		wantSplit(t, many+"\x00\x00\x00", slices.Repeat([]string{u}, api.MaxNals), api.OK)
		for n := 1; n < 1000; n *= 10 {
			more := many + strings.Repeat(one, n)
			wantSplit(t, more, nil, api.ErrLong)
			wantSplit(t, more+start, nil, api.ErrForm)
			wantSplit(t, more+start+start+"\x09", nil, api.ErrForm)
			wantSplit(t, more+"\x09\x00\x00\x02", nil, api.ErrForm)
			wantSplit(t, "\x01"+more, nil, api.ErrForm)
		}
		wantSplit(t, many+start, nil, api.ErrForm)
	}
	wantSplit(t, strings.Repeat(start+"\x09", api.MaxStream/4), nil, api.ErrLong)
	wantSplit(t, strings.Repeat(start, api.MaxStream/3), nil, api.ErrForm)
}

func TestJoinExamples(t *testing.T) { // P4.2
	wantJoin(t, []string{"\x09", "\x27\x4d", "\x09"}, "\x00\x00\x00\x01\x09\x00\x00\x00\x01\x27\x4d\x00\x00\x01\x09", api.OK)
	wantJoin(t, []string{"\x09\x00"}, "", api.ErrForm)
	wantJoin(t, []string{""}, "", api.ErrForm)
	wantJoin(t, []string{"\x09\x00\x00\x03"}, "\x00\x00\x00\x01\x09\x00\x00\x03", api.OK)
	wantJoin(t, nil, "", api.OK)
	wantJoin(t, []string{}, "", api.OK)
}

func TestStreamExample(t *testing.T) { // P4.1, P4.2: the stream E1
	l := []string{"\x27\x4d\x00\x0a\xf4\xf2", "\x28\xce\x38\x80", "\x25\xb8\x40\xff\xff\xe0\xc2"}
	s := "\x00\x00\x00\x01\x27\x4d\x00\x0a\xf4\xf2\x00\x00\x00\x01\x28\xce\x38\x80\x00\x00\x01\x25\xb8\x40\xff\xff\xe0\xc2"
	wantJoin(t, l, s, api.OK)
	wantSplit(t, s, l, api.OK)
}

func TestJoinEveryPair(t *testing.T) { // P4.2: whatever the first one is, and the second one
	all := texts("\x00\x01\x02\x07", 4)
	for _, u := range all {
		for _, v := range all {
			if l := []string{u, v}; fits(u) && fits(v) {
				wantJoin(t, l, canonical(l), api.OK)
			} else {
				wantJoin(t, l, "", api.ErrForm)
			}
		}
	}
}

func TestJoinEveryFirstByte(t *testing.T) { // P4.2: the kind is the first byte modulo 32, and no other byte
	for i := range 256 {
		u := string([]byte{byte(i), 9})
		l := []string{u, u, "\x09\x07", u, "\x05\x08", "\x07", u}
		wantJoin(t, l, canonical(l), api.OK)
	}
}

func TestJoinManyUnits(t *testing.T) { // P4.2: too many units come before what is wrong with one
	for _, u := range []string{"\x09", "\x07", "\x68\x01"} {
		l := slices.Repeat([]string{u}, api.MaxNals)
		wantJoin(t, l, canonical(l), api.OK)
		wantJoin(t, append(l, u), "", api.ErrLong)
		wantJoin(t, append(l, ""), "", api.ErrLong)
		wantJoin(t, append([]string{"\x00"}, l...), "", api.ErrLong)
		wantJoin(t, slices.Repeat(l, 16), "", api.ErrLong)
		l[api.MaxNals-1] = ""
		wantJoin(t, l, "", api.ErrForm)
	}
	wantJoin(t, make([]string, api.MaxNals), "", api.ErrForm)
	wantJoin(t, make([]string, api.MaxNals+1), "", api.ErrLong)
}

func TestJoinLengths(t *testing.T) { // P4.2: the bytes 0 before start codes count; what is wrong with a unit comes first
	big := strings.Repeat("\x09", api.MaxStream)
	for _, first := range [][]string{nil, {"\x09"}, {"\x07"}, {"\x27\x4d", "\x28", "\x05"}} {
		for _, last := range []string{"\x01", "\x05", "\x47", "\x08"} {
			l := append(slices.Clone(first), last)
			room := api.MaxStream - len(canonical(l))
			fill := func(n int) []string { return append(slices.Clone(first), last+big[:n]) }
			wantJoin(t, fill(room), canonical(fill(room)), api.OK)
			wantJoin(t, fill(room+1), "", api.ErrLong)
			wantJoin(t, append(fill(room+1), "\x00"), "", api.ErrForm)
			wantJoin(t, append([]string{""}, fill(room+1)...), "", api.ErrForm)
		}
	}
	wantJoin(t, []string{big}, "", api.ErrLong)
	wantJoin(t, []string{big, big + "\x00"}, "", api.ErrForm)
	wantJoin(t, slices.Repeat([]string{big[:api.MaxStream/2]}, 16), "", api.ErrLong)
}

func TestLong(t *testing.T) { // P4.3
	for i := range 256 {
		kind := uint8(i)
		if !annexb.Long(kind, true) {
			t.Errorf("Long of %d, the first one", kind)
		}
		if annexb.Long(kind, false) != (i == 7 || i == 8) {
			t.Errorf("Long of %d, not the first one", kind)
		}
	}
}

func TestSplitOfJoin(t *testing.T) { // P4.4
	x := numbers(2)
	streams := map[string][]string{}
	for range 20000 {
		l := x.units(6)
		s, e := annexb.Join(l...)
		if e != api.OK {
			t.Fatalf("Join of %s: %d", shorts(l), e)
		}
		if other, ok := streams[s]; ok && !slices.Equal(l, other) {
			t.Fatalf("%s is the stream of %s and of %s", short(s), shorts(l), shorts(other))
		}
		streams[s] = l
		wantSplit(t, s, l, api.OK)
	}
}

func TestZerosMakeNoDifference(t *testing.T) { // P4.5
	x := numbers(3)
	for range 20000 {
		l := x.units(6)
		s := ""
		for _, u := range l {
			s += x.zeros(5) + start + u
		}
		wantSplit(t, s+x.zeros(5), l, api.OK)
	}
	many := strings.Repeat("\x00", 1<<20)
	wantSplit(t, many+start+"\x09"+many+start+"\x27\x4d"+many, []string{"\x09", "\x27\x4d"}, api.OK)
}

func TestJoinOfSplit(t *testing.T) { // P4.6
	x := numbers(4)
	for range 20000 {
		l := x.units(6)
		shortest := strings.Join(append([]string{""}, l...), start)
		if len(l) == 0 {
			shortest = ""
		}
		s := canonical(l)
		if len(s) < len(shortest) || len(s) > len(shortest)+len(l) {
			t.Fatalf("%s has %d bytes; the shortest stream has %d", short(s), len(s), len(shortest))
		}
		for _, stream := range []string{s, shortest, x.zeros(3) + s + x.zeros(3)} {
			units, e := annexb.Split(stream)
			if e != api.OK {
				t.Fatalf("Split of %s: %d", short(stream), e)
			}
			wantJoin(t, units, s, api.OK)
		}
	}
}

func TestJoinInTwoParts(t *testing.T) { // P4.7
	x := numbers(5)
	for range 20000 {
		first, others := x.units(4), x.units(4)
		a, _ := annexb.Join(first...)
		b, _ := annexb.Join(others...)
		if len(first) > 0 && len(others) > 0 {
			if kind := others[0][0] % 32; kind != 7 && kind != 8 {
				b = b[1:]
			}
		}
		wantJoin(t, slices.Concat(first, others), a+b, api.OK)
	}
}

func TestArgumentsStay(t *testing.T) { // R3
	l := []string{"\x09", "\x27\x4d", "\x05\x00\x00\x03"}
	kept := slices.Clone(l)
	s, _ := annexb.Join(l...)
	if !slices.Equal(l, kept) {
		t.Fatalf("Join has left %s", shorts(l))
	}
	clear(l)
	wantSplit(t, s, kept, api.OK)
	units, _ := annexb.Split(s)
	clear(units)
	wantSplit(t, s, kept, api.OK)
}

func TestSameCallSameResult(t *testing.T) { // R6: an error leaves nothing behind
	for range 3 {
		wantSplit(t, start+"\x09", []string{"\x09"}, api.OK)
		wantSplit(t, start+"\x09"+start, nil, api.ErrForm)
		wantSplit(t, "", nil, api.OK)
		wantJoin(t, []string{"\x09", ""}, "", api.ErrForm)
		wantJoin(t, []string{"\x09"}, "\x00"+start+"\x09", api.OK)
		wantJoin(t, nil, "", api.OK)
	}
}
