package value

import (
	"math"
	"math/rand"
	"strings"
	"testing"

	"intarsia/api"
)

const most = 1 << 40 // the greatest number that may be

func val(kind uint8, n int, s string) api.Value { return api.Value{Kind: kind, N: n, S: s} }

// allowed are the code points below 80 (hex) that may stand in a word.
const allowed = "abcdefghijklmnopqrstuvwxyz" + "ABCDEFGHIJKLMNOPQRSTUVWXYZ" + "0123456789" + "_-?!+*."

// fits tells whether b is from low to high.
func fits(b byte, low, high int) bool { return low <= int(b) && int(b) <= high }

// pointSize tells how many bytes of s its first code point has, by the table of
// UTF-8's well-formed bytes; 0, if it begins with none.
func pointSize(s string) int {
	rest := 0
	low, high := 0x80, 0xbf // of the second byte
	switch c := s[0]; {
	case fits(c, 0, 0x7f):
		return 1
	case fits(c, 0xc2, 0xdf):
		rest = 1
	case fits(c, 0xe0, 0xef):
		rest = 2
	case fits(c, 0xf0, 0xf4):
		rest = 3
	default:
		return 0
	}
	switch s[0] {
	case 0xe0:
		low = 0xa0 // else it is longer than it need be
	case 0xed:
		high = 0x9f // else it is a surrogate
	case 0xf0:
		low = 0x90 // else it is longer than it need be
	case 0xf4:
		high = 0x8f // else it is above 10FFFF
	}
	if len(s) < 1+rest || !fits(s[1], low, high) {
		return 0
	}
	for i := 2; i <= rest; i++ {
		if !fits(s[i], 0x80, 0xbf) {
			return 0
		}
	}
	return 1 + rest
}

// wordByTable is the chapter's word, byte by byte.
func wordByTable(s string) bool {
	if len(s) < 1 || len(s) > 24 {
		return false
	}
	for s != "" {
		n := pointSize(s)
		if n == 0 || n == 1 && !strings.Contains(allowed, s[:1]) {
			return false
		}
		s = s[n:]
	}
	return true
}

// numberByTable is the chapter's word that is a number, byte by byte.
func numberByTable(s string) bool {
	if s != "" && (s[0] == '-' || s[0] == '+') {
		s = s[1:]
	}
	return s != "" && strings.Trim(s, "0123456789") == ""
}

// checkByTable is P13.1, word by word.
func checkByTable(v api.Value) api.Errno {
	if v.Kind > 2 {
		return api.ErrKind
	}
	if v.N != 0 && v.Kind != 1 || v.S != "" && v.Kind != 2 {
		return api.ErrForm
	}
	if v.N < -most || v.N > most {
		return api.ErrRange
	}
	if v.Kind == 2 && (!wordByTable(v.S) || numberByTable(v.S) || v.S == "nil") {
		return api.ErrName
	}
	return api.OK
}

// layByHand lays a value as P13.4 says, also one that may not be.
func layByHand(v api.Value) []byte {
	b := []byte{v.Kind}
	switch v.Kind {
	case 1:
		for i := 5; i >= 0; i-- {
			b = append(b, byte((v.N+most)>>(8*i)))
		}
	case 2:
		b = append(b, byte(len(v.S)))
		b = append(b, v.S...)
	}
	return b
}

// words are texts that are words, and no numbers.
func words() []string {
	return []string{
		"a", "z", "A", "Z", "abc", "a-b", "x1", "1x", "1-", "-", "+", "--", "+-1", "-+1", "1+1", "-1-", "1.5", ".", "*", "?", "!", "_", "-x", "+x", "-.5",
		"Nil", "NIL", "nil.", "nill", "ni", "-nil", "\u0080", "\u00e9", "\u07ff", "\u0800", "\ufffd", "\uffff", "\U00010000", "\U0010ffff", "\u2028", "\u00a0",
		"\u0661", "-\u0661", "1\u0661", "\u0661\u0662", "\uff11", "\u00b2", "caf\u00e9", "\u00e9tat", strings.Repeat("x", 24), strings.Repeat("\u00e9", 12), strings.Repeat("\u20ac", 8), strings.Repeat("\U0001f600", 6),
		"x" + strings.Repeat("9", 23), strings.Repeat("9", 23) + "x", strings.Repeat("-", 24),
	}
}

// noWords are texts that are none.
func noWords() []string {
	return []string{
		"", " ", "a b", " a", "a ", "(", "a)", "<x>", "^a", "a,b", "a/b", "a=b", "a'b", "a\"b", "a:b", "a;b", "a@b", "a[b", "a`b", "a{b", "a~b", "#", "$a", "a%", "a&b", "a|b", "a\\b",
		"a\n", "\ta", "a\x00", "\x00", "\x7f", "a\x7f", strings.Repeat("x", 25), strings.Repeat("9", 25), "x" + strings.Repeat("\u00e9", 12), strings.Repeat("\u20ac", 8) + "x", strings.Repeat("\U0001f600", 6) + "x", strings.Repeat("a", 48), strings.Repeat("x", 100000),
		"\x80", "\xbf", "\xc0\x80", "\xc1\xbf", "\xc3", "\xe2\x82", "\xf0\x9f\x98", "\xe0\x80\x80", "\xe0\x9f\xbf", "\xf0\x80\x80\x80", "\xf0\x8f\xbf\xbf", "\xed\xa0\x80", "\xed\xbf\xbf", "\xf4\x90\x80\x80", "\xf5\x80\x80\x80", "\xf8\x88\x80\x80\x80", "\xfe", "\xff", "\xc3\xc3\xa9", "\xc3a",
	}
}

// numberWord is a word that is a number, which one, and whether it is within the
// bounds.
type numberWord struct {
	s    string
	n    int
	room bool
}

func numberWords() []numberWord {
	return []numberWord{
		{"0", 0, true}, {"-0", 0, true}, {"+0", 0, true}, {"00", 0, true}, {"-00", 0, true}, {"5", 5, true}, {"+5", 5, true}, {"-12", -12, true}, {"007", 7, true}, {"-007", -7, true}, {"+007", 7, true}, {"10", 10, true}, {"100", 100, true}, {"1234567890", 1234567890, true}, {"9", 9, true}, {"-9", -9, true},
		{strings.Repeat("0", 24), 0, true}, {"-" + strings.Repeat("0", 23), 0, true}, {strings.Repeat("0", 23) + "7", 7, true}, {"-" + strings.Repeat("0", 22) + "7", -7, true}, {"+" + strings.Repeat("0", 22) + "7", 7, true}, {strings.Repeat("0", 11) + "1099511627776", most, true}, {"-" + strings.Repeat("0", 10) + "1099511627776", -most, true},
		{"1099511627775", most - 1, true}, {"1099511627776", most, true}, {"+1099511627776", most, true}, {"-1099511627775", 1 - most, true}, {"-1099511627776", -most, true},
		{"1099511627777", 0, false}, {"+1099511627777", 0, false}, {"-1099511627777", 0, false}, {strings.Repeat("0", 11) + "1099511627777", 0, false}, {"2199023255552", 0, false}, {"10995116277760", 0, false},
		{"9223372036854775807", 0, false}, {"9223372036854775808", 0, false}, {"-9223372036854775808", 0, false}, {"-9223372036854775809", 0, false}, {"18446744073709551615", 0, false}, {"18446744073709551616", 0, false}, {"18446744073709551621", 0, false}, {"-18446744073709551621", 0, false}, {"4294967296", 1 << 32, true}, {"36893488147419103233", 0, false},
		{strings.Repeat("9", 24), 0, false}, {"-" + strings.Repeat("9", 23), 0, false}, {"+" + strings.Repeat("9", 23), 0, false}, {"1" + strings.Repeat("0", 23), 0, false}, {"-1" + strings.Repeat("0", 22), 0, false},
	}
}

// mayBe are values that may be.
func mayBe() []api.Value {
	l := []api.Value{{}}
	for _, n := range []int{0, 1, -1, 7, -7, 255, 256, -256, 65536, 1 << 32, most - 1, 1 - most, most, -most} {
		l = append(l, val(1, n, ""))
	}
	for _, s := range words() {
		l = append(l, val(2, 0, s))
	}
	return l
}

// refusal is a value that may not be, and why.
type refusal struct {
	v    api.Value
	want api.Errno
}

func refused() []refusal {
	l := []refusal{
		{val(0, 1, ""), api.ErrForm}, {val(0, -1, ""), api.ErrForm}, {val(0, 0, "a"), api.ErrForm}, {val(0, 1, "a"), api.ErrForm}, {val(0, 0, "nil"), api.ErrForm}, {val(0, 0, " "), api.ErrForm},
		{val(0, most+1, ""), api.ErrForm}, {val(0, math.MinInt, "\xff"), api.ErrForm},
		{val(1, 0, "a"), api.ErrForm}, {val(1, 5, "5"), api.ErrForm}, {val(1, most+1, "a"), api.ErrForm}, {val(1, 0, "nil"), api.ErrForm}, {val(1, 0, "\xff"), api.ErrForm},
		{val(2, 1, ""), api.ErrForm}, {val(2, 1, "a"), api.ErrForm}, {val(2, -1, "12"), api.ErrForm}, {val(2, most+1, "a"), api.ErrForm}, {val(2, math.MaxInt, "nil"), api.ErrForm},
		{val(1, most+1, ""), api.ErrRange}, {val(1, -most-1, ""), api.ErrRange}, {val(1, math.MaxInt, ""), api.ErrRange}, {val(1, math.MinInt, ""), api.ErrRange}, {val(1, 2*most, ""), api.ErrRange},
		{val(2, 0, "nil"), api.ErrName}, {val(2, 0, ""), api.ErrName},
	}
	for _, kind := range []uint8{3, 4, 127, 128, 254, 255} {
		l = append(l, refusal{val(kind, 0, ""), api.ErrKind}, refusal{val(kind, 1, ""), api.ErrKind}, refusal{val(kind, most+1, "a"), api.ErrKind}, refusal{val(kind, 0, "nil"), api.ErrKind}, refusal{val(kind, 0, "a"), api.ErrKind})
	}
	for _, s := range noWords() {
		l = append(l, refusal{val(2, 0, s), api.ErrName})
	}
	for _, w := range numberWords() {
		l = append(l, refusal{val(2, 0, w.s), api.ErrName})
	}
	return l
}

// drawnText draws a text whose pieces are now and then no word's.
func drawnText(r *rand.Rand) string {
	pieces := []string{"a", "Z", "0", "9", "-", "+", "_", ".", "nil", "n", "\u00e9", "\u20ac", "\U0001f600", "\ufffd", "12", "7", "x"}
	odd := []string{" ", "(", "\xff", "\xc3", "\xed\xa0\x80", "\x80", "\x00", "\xf4\x90\x80\x80", "~"}
	var b strings.Builder
	for range r.Intn(10) {
		if r.Intn(20) == 0 {
			b.WriteString(odd[r.Intn(len(odd))])
		} else {
			b.WriteString(pieces[r.Intn(len(pieces))])
		}
	}
	return b.String()
}

// drawn draws a value that may be.
func drawn(r *rand.Rand) api.Value {
	for {
		v := api.Value{Kind: uint8(r.Intn(3))}
		switch v.Kind {
		case 1:
			v.N = (r.Intn(2*most+1) - most) >> r.Intn(41)
		case 2:
			v.S = drawnText(r)
		}
		if checkByTable(v) == api.OK {
			return v
		}
	}
}

func wantErr(t *testing.T, what any, got, want api.Errno) {
	t.Helper()
	if got != want {
		t.Errorf("%#v: error %d, want %d", what, int(got), int(want))
	}
}
