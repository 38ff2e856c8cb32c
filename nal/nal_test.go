package nal_test

import (
	"slices"
	"strings"
	"testing"

	"spindle/api"
	"spindle/nal"
)

// escaped is the chapter's definition, spelt apart from the package: it looks at what was written, not at the bytes 0 before.
func escaped(s string) string {
	var out []byte
	pair := func() bool { return len(out) >= 2 && out[len(out)-1] == 0 && out[len(out)-2] == 0 }
	for i := range len(s) {
		if pair() && s[i] <= 3 {
			out = append(out, 3)
		}
		out = append(out, s[i])
	}
	if pair() {
		out = append(out, 3)
	}
	return string(out)
}

// alphabet has the bytes that matter, the smallest one that does not, and the greatest one.
const alphabet = "\x00\x01\x02\x03\x04\xff"

// texts returns all strings of at most n bytes of an alphabet, the shorter ones first.
func texts(letters string, n int) []string {
	all := []string{""}
	last := all
	for range n {
		var next []string
		for _, s := range last {
			for i := range len(letters) {
				next = append(next, s+letters[i:i+1])
			}
		}
		all = append(all, next...)
		last = next
	}
	return all
}

// numbers yields the same numbers in every run.
type numbers uint64

func (x *numbers) below(n int) int {
	*x ^= *x << 13
	*x ^= *x >> 7
	*x ^= *x << 17
	return int(uint64(*x) % uint64(n))
}

// text returns a string of at most n bytes, most of which are small.
func (x *numbers) text(n int) string {
	b := make([]byte, x.below(n+1))
	for i := range b {
		switch x.below(4) {
		case 0:
			b[i] = byte(x.below(5))
		case 1:
			b[i] = byte(x.below(256))
		}
	}
	return string(b)
}

func wantEscape(t *testing.T, s, want string) {
	t.Helper()
	if x := nal.Escape(s); x != want {
		t.Fatalf("Escape of % x: % x; want % x", s, x, want)
	}
}

func wantUnescape(t *testing.T, s, want string, err api.Errno) {
	t.Helper()
	if x, e := nal.Unescape(s); x != want || e != err {
		t.Fatalf("Unescape of % x: % x, %d; want % x, %d", s, x, e, want, err)
	}
}

func wantEncode(t *testing.T, u api.Unit, want string, err api.Errno) {
	t.Helper()
	if x, e := nal.Encode(u); x != want || e != err {
		t.Fatalf("Encode of %d, %d, % x: % x, %d; want % x, %d", u.Ref, u.Kind, u.Rbsp, x, e, want, err)
	}
}

func wantDecode(t *testing.T, s string, want api.Unit, err api.Errno) {
	t.Helper()
	if x, e := nal.Decode(s); x != want || e != err {
		t.Fatalf("Decode of % x: %d, %d, % x, %d; want %d, %d, % x, %d", s, x.Ref, x.Kind, x.Rbsp, e, want.Ref, want.Kind, want.Rbsp, err)
	}
}

func TestEscapeExamples(t *testing.T) { // P3.1
	for _, x := range []struct{ s, want string }{
		{"\x00\x00\x00", "\x00\x00\x03\x00"},
		{"\x00\x00\x01\x00\x00", "\x00\x00\x03\x01\x00\x00\x03"},
		{"\x00\x00\x04", "\x00\x00\x04"},
		{"\x00\x00\x03", "\x00\x00\x03\x03"},
		{"\x00\x00\x00\x00", "\x00\x00\x03\x00\x00\x03"},
		{"", ""},
		{"\x00", "\x00"},
		{"\x01\x00\x00", "\x01\x00\x00\x03"},
	} {
		wantEscape(t, x.s, x.want)
		wantUnescape(t, x.want, x.s, api.OK)
	}
}

func TestUnescapeExamples(t *testing.T) { // P3.1
	wantUnescape(t, "\x00\x00\x03", "\x00\x00", api.OK)
	wantUnescape(t, "\x00\x00\x03\x04", "", api.ErrForm)
	wantUnescape(t, "\x00\x00\x01", "", api.ErrForm)
	wantUnescape(t, "\x00\x00", "", api.ErrForm)
	wantUnescape(t, "\x00\x00\x03\x00", "\x00\x00\x00", api.OK)
}

func TestEscapeEveryText(t *testing.T) { // P3.1, P3.5
	for _, s := range texts(alphabet, 7) {
		want := escaped(s)
		wantEscape(t, s, want)
		wantUnescape(t, want, s, api.OK)
	}
}

func TestUnescapeEveryText(t *testing.T) { // P3.1, P3.5: a string is escaped only if a string that is not longer was
	all := texts(alphabet, 7)
	from := map[string]string{}
	for _, s := range all {
		e := escaped(s)
		if other, ok := from[e]; ok {
			t.Fatalf("% x and % x are both escaped as % x", s, other, e)
		}
		from[e] = s
	}
	for _, s := range all {
		if want, ok := from[s]; ok {
			wantUnescape(t, s, want, api.OK)
		} else {
			wantUnescape(t, s, "", api.ErrForm)
		}
	}
}

func TestRowsOfZeros(t *testing.T) { // P3.1: a byte 3 that was inserted ends the row
	for n := range 40 {
		zeros := strings.Repeat("\x00", n)
		for b := range 256 {
			for _, s := range []string{zeros, zeros + string([]byte{byte(b)}), "\x01" + zeros + string([]byte{byte(b), 0, 0, byte(b)})} {
				wantEscape(t, s, escaped(s))
				wantUnescape(t, escaped(s), s, api.OK)
			}
		}
		if n >= 2 {
			wantUnescape(t, zeros, "", api.ErrForm)
		}
		if n >= 3 {
			wantUnescape(t, zeros+"\x04\x05", "", api.ErrForm)
		}
	}
}

func TestEveryByteAfterZeros(t *testing.T) { // P3.1
	for i := range 256 {
		b := string([]byte{byte(i)})
		pair, kept := "\x00\x00"+b, "\x00\x00\x03"+b
		switch {
		case i < 3:
			wantUnescape(t, pair+"\x09", "", api.ErrForm)
			wantUnescape(t, kept+"\x09", pair+"\x09", api.OK)
		case i == 3:
			wantUnescape(t, pair+"\x09", "", api.ErrForm)
			wantUnescape(t, pair+"\x00", "\x00\x00\x00", api.OK)
			wantUnescape(t, kept+"\x09", pair+"\x09", api.OK)
		default:
			wantUnescape(t, pair+"\x09", pair+"\x09", api.OK)
			wantUnescape(t, kept+"\x09", "", api.ErrForm)
		}
		wantUnescape(t, "\x00"+b+"\x09", "\x00"+b+"\x09", api.OK)
	}
}

func TestUnescapeErrorAtEveryPlace(t *testing.T) { // P3.1: what is before and after makes no difference, and nothing is returned
	fine := "\x07\x00\x05\x00\x00\x03\x01"
	for n := range 5 {
		for m := range 5 {
			for _, bad := range []string{"\x00\x00\x00", "\x00\x00\x01", "\x00\x00\x02", "\x00\x00\x03\x04", "\x00\x00\x03\xff"} {
				wantUnescape(t, strings.Repeat(fine, n)+bad+strings.Repeat(fine, m), "", api.ErrForm)
			}
			wantUnescape(t, strings.Repeat(fine, n+m)+"\x00\x00", "", api.ErrForm)
		}
	}
}

func TestEncodeExamples(t *testing.T) { // P3.2
	wantEncode(t, api.Unit{Ref: 1, Kind: 7, Rbsp: "\x4d\x00"}, "", api.ErrForm)
	wantEncode(t, api.Unit{Ref: 3, Kind: 5, Rbsp: "\x80\x00\x00"}, "\x65\x80\x00\x00\x03", api.OK)
	wantEncode(t, api.Unit{Kind: 9}, "\x09", api.OK)
	wantEncode(t, api.Unit{Ref: 4, Kind: 1}, "", api.ErrRange)
	wantEncode(t, api.Unit{Rbsp: "\x01"}, "", api.ErrForm)
}

func TestDecodeExamples(t *testing.T) { // P3.3
	wantDecode(t, "", api.Unit{}, api.ErrShort)
	wantDecode(t, "\xe5", api.Unit{}, api.ErrForm)
	wantDecode(t, "\x00\x01", api.Unit{}, api.ErrForm)
	wantDecode(t, "\x27\x4d", api.Unit{Ref: 1, Kind: 7, Rbsp: "\x4d"}, api.OK)
}

func TestUnitsOfTheStreamExample(t *testing.T) { // P3.2, P3.3: the stream E1
	for s, u := range map[string]api.Unit{
		"\x27\x4d\x00\x0a\xf4\xf2":     {Ref: 1, Kind: api.NalSps, Rbsp: "\x4d\x00\x0a\xf4\xf2"},
		"\x28\xce\x38\x80":             {Ref: 1, Kind: api.NalPps, Rbsp: "\xce\x38\x80"},
		"\x25\xb8\x40\xff\xff\xe0\xc2": {Ref: 1, Kind: api.NalIdr, Rbsp: "\xb8\x40\xff\xff\xe0\xc2"},
	} {
		wantEncode(t, u, s, api.OK)
		wantDecode(t, s, u, api.OK)
	}
}

// payloads says of each payload whether a unit whose header is not 0 has bytes.
func payloads() map[string]bool {
	return map[string]bool{
		"": true, "\x01": true, "\x80\x00\x00": true, "\x00\x00": true, "\x00\x00\x00\x00": true,
		"\x00\x00\x01": true, "\x00\x00\x03": true, "\x00\x00\x00\x01\xff": true,
		"\x00": false, "\x4d\x00": false, "\x00\x00\x00": false, "\x05\x00\x00\x00\x00\x00": false,
	}
}

func TestEveryHeader(t *testing.T) { // P3.2: ErrRange comes before ErrForm
	for payload, fits := range payloads() {
		for ref := range 256 {
			for kind := range 256 {
				u := api.Unit{Ref: uint8(ref), Kind: uint8(kind), Rbsp: payload}
				switch {
				case ref > 3 || kind > 31:
					wantEncode(t, u, "", api.ErrRange)
				case ref == 0 && kind == 0 || !fits:
					wantEncode(t, u, "", api.ErrForm)
				default:
					wantEncode(t, u, string([]byte{byte(32*ref + kind)})+escaped(payload), api.OK)
				}
			}
		}
	}
}

func TestEveryFirstByte(t *testing.T) { // P3.3
	for first := range 256 {
		for payload, fits := range payloads() {
			s := string([]byte{byte(first)}) + escaped(payload)
			if first == 0 || first >= 128 || !fits {
				wantDecode(t, s, api.Unit{}, api.ErrForm)
			} else {
				wantDecode(t, s, api.Unit{Ref: uint8(first / 32), Kind: uint8(first % 32), Rbsp: payload}, api.OK)
			}
		}
		for _, payload := range []string{"\x00\x00\x00\x09", "\x00\x00\x01", "\x00\x00\x02\x09", "\x00\x00\x03\x04", "\x09\x00\x00"} {
			wantDecode(t, string([]byte{byte(first)})+payload, api.Unit{}, api.ErrForm)
		}
	}
}

func TestDecodeEveryText(t *testing.T) { // P3.2, P3.3: exactly the bytes of units are decoded, each as its unit
	units := map[string]api.Unit{}
	for _, s := range texts(alphabet, 5) {
		for first := range 128 {
			u := api.Unit{Ref: uint8(first / 32), Kind: uint8(first % 32), Rbsp: s}
			if b, e := nal.Encode(u); e == api.OK {
				units[b] = u
			}
		}
	}
	for _, s := range texts(alphabet, 6) {
		u, ok := units[s]
		switch {
		case s == "":
			wantDecode(t, s, api.Unit{}, api.ErrShort)
		case ok:
			wantDecode(t, s, u, api.OK)
		default:
			wantDecode(t, s, api.Unit{}, api.ErrForm)
		}
	}
}

func TestNoStartCodes(t *testing.T) { // P3.4
	clean := func(s string) {
		t.Helper()
		for _, bad := range []string{"\x00\x00\x00", "\x00\x00\x01", "\x00\x00\x02"} {
			if strings.Contains(s, bad) {
				t.Fatalf("% x has % x", s, bad)
			}
		}
	}
	x := numbers(1)
	all := texts(alphabet, 5)
	for range 5000 {
		all = append(all, x.text(60))
	}
	for _, s := range all {
		clean(nal.Escape(s))
		for _, kind := range []uint8{0, 1, 2, 3, 5} {
			for ref := range uint8(2) {
				b, _ := nal.Encode(api.Unit{Ref: ref, Kind: kind, Rbsp: s})
				clean(b)
			}
		}
	}
}

func TestThereAndBack(t *testing.T) { // P3.5
	x := numbers(2)
	refused := 0
	for range 20000 {
		s := x.text(40)
		wantUnescape(t, nal.Escape(s), s, api.OK)
		if u, e := nal.Unescape(s); e == api.OK {
			wantEscape(t, u, s)
		} else {
			refused++
		}
	}
	if refused == 0 || refused == 20000 {
		t.Fatalf("%d strings are not escaped", refused)
	}
}

func TestDifferentTexts(t *testing.T) { // P3.5
	var all []string
	for _, s := range texts(alphabet, 6) {
		all = append(all, nal.Escape(s))
	}
	n := len(all)
	slices.Sort(all)
	if m := len(slices.Compact(all)); m != n {
		t.Fatalf("%d strings have %d escaped strings", n, m)
	}
}

func TestLengths(t *testing.T) { // P3.6
	for _, s := range texts(alphabet, 7) {
		x := nal.Escape(s)
		if 2*len(x) > 3*len(s) {
			t.Fatalf("% x is % x", s, x)
		}
		same := true
		for i := range max(0, len(s)-1) {
			if s[i] == 0 && s[i+1] == 0 && (i+2 == len(s) || s[i+2] <= 3) {
				same = false
			}
		}
		if (x == s) != same {
			t.Fatalf("% x is % x", s, x)
		}
	}
	for n := range 100 { // the longest ones
		if x := nal.Escape(strings.Repeat("\x00", 2*n)); len(x) != 3*n {
			t.Fatalf("%d bytes 0 are % x", 2*n, x)
		}
	}
}

func TestAnyPayload(t *testing.T) { // P3.7
	x := numbers(3)
	for range 100 {
		payload := x.text(30) + string([]byte{byte(1 + x.below(255))})
		for header := 1; header < 128; header++ {
			u := api.Unit{Ref: uint8(header / 32), Kind: uint8(header % 32), Rbsp: payload}
			b := string([]byte{byte(header)}) + escaped(payload)
			wantEncode(t, u, b, api.OK)
			wantDecode(t, b, u, api.OK)
		}
	}
}

func TestSameCallSameResult(t *testing.T) { // R6: an error leaves nothing behind
	for range 3 {
		wantUnescape(t, "\x01\x00\x00\x03", "\x01\x00\x00", api.OK)
		wantUnescape(t, "\x01\x00\x00", "", api.ErrForm)
		wantUnescape(t, "\x03", "\x03", api.OK)
		wantEncode(t, api.Unit{Ref: 1, Kind: 1, Rbsp: "\x00"}, "", api.ErrForm)
		wantEncode(t, api.Unit{Ref: 1, Kind: 1, Rbsp: "\x00\x01"}, "\x21\x00\x01", api.OK)
		wantDecode(t, "\x21\x00", api.Unit{}, api.ErrForm)
		wantDecode(t, "\x21\x03", api.Unit{Ref: 1, Kind: 1, Rbsp: "\x03"}, api.OK)
	}
}

func TestLongTexts(t *testing.T) { // P3.1, P3.2, P3.3: as long as a stream may be, and longer
	for _, part := range []string{"\x00", "\x00\x00\x01", "\x00\x00\x03", "\x00\x00\x04", "\x07"} {
		s := strings.Repeat(part, (api.MaxStream+8)/len(part)) + "\x01"
		x := escaped(s)
		if nal.Escape(s) != x {
			t.Fatalf("Escape of many % x", part)
		}
		if y, e := nal.Unescape(x); y != s || e != api.OK {
			t.Fatalf("Unescape of many % x: %d", part, e)
		}
		u := api.Unit{Ref: 2, Kind: 12, Rbsp: s}
		if b, e := nal.Encode(u); b != "\x4c"+x || e != api.OK {
			t.Fatalf("Encode of many % x: %d", part, e)
		}
		if v, e := nal.Decode("\x4c" + x); v != u || e != api.OK {
			t.Fatalf("Decode of many % x: %d", part, e)
		}
	}
}
