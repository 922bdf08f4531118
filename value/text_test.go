package value

import (
	"math/rand"
	"strconv"
	"testing"

	"intarsia/api"
)

func wantParse(t *testing.T, s string, want api.Value, wantErr api.Errno) {
	t.Helper()
	if v, err := Parse(s); v != want || err != wantErr {
		t.Errorf("Parse(%.40q) = %#v, %d; want %#v, %d", s, v, int(err), want, int(wantErr))
	}
}

func wantText(t *testing.T, v api.Value, want string) {
	t.Helper()
	if got := Text(v); got != want {
		t.Errorf("Text(%#v) = %q, want %q", v, got, want)
	}
}

// The chapter's examples.
func TestExamples(t *testing.T) {
	wantParse(t, "-12", val(1, -12, ""), api.OK)
	wantParse(t, "+5", val(1, 5, ""), api.OK)
	wantParse(t, "a-b", val(2, 0, "a-b"), api.OK)
	wantParse(t, "nil", api.Value{}, api.OK)
	if !Holds(Less, Number(1), Number(2)) || Holds(Less, Symbol("a"), Symbol("b")) {
		t.Error("Holds")
	}
}

// P13.2: texts of each kind.
func TestParseTold(t *testing.T) {
	for _, s := range words() {
		wantParse(t, s, val(2, 0, s), api.OK)
	}
	for _, s := range noWords() {
		wantParse(t, s, api.Value{}, api.ErrName)
	}
	for _, w := range numberWords() {
		if w.room {
			wantParse(t, w.s, val(1, w.n, ""), api.OK)
		} else {
			wantParse(t, w.s, api.Value{}, api.ErrRange)
		}
	}
}

// P13.2: numbers close to the bounds, with each sign.
func TestParseBounds(t *testing.T) {
	for d := -300; d <= 300; d++ {
		digits := strconv.Itoa(most + d)
		want, err := val(1, most+d, ""), api.OK
		if d > 0 {
			want, err = api.Value{}, api.ErrRange
		}
		wantParse(t, digits, want, err)
		wantParse(t, "+"+digits, want, err)
		wantParse(t, "00"+digits, want, err)
		want.N = -want.N
		wantParse(t, "-"+digits, want, err)
	}
}

// parseByTable is P13.2, digit by digit, up to where the bound is passed.
func parseByTable(s string) (api.Value, api.Errno) {
	switch {
	case !wordByTable(s):
		return api.Value{}, api.ErrName
	case s == "nil":
		return api.Value{}, api.OK
	case !numberByTable(s):
		return val(2, 0, s), api.OK
	}
	n := 0
	for _, c := range []byte(s) {
		if '0' <= c && c <= '9' {
			n = 10*n + int(c-'0')
		}
		if n > most {
			return api.Value{}, api.ErrRange
		}
	}
	if s[0] == '-' {
		n = -n
	}
	return val(1, n, ""), api.OK
}

// P13.2: drawn texts, and drawn digits of all lengths.
func TestParseDrawn(t *testing.T) {
	r := rand.New(rand.NewSource(132))
	for range 30000 {
		s := drawnText(r)
		v, err := parseByTable(s)
		wantParse(t, s, v, err)
		s = []string{"", "-", "+"}[r.Intn(3)]
		for range r.Intn(25) {
			s += string([]byte{byte('0' + r.Intn(10))})
		}
		v, err = parseByTable(s)
		wantParse(t, s, v, err)
	}
}

// P13.2: Text of values that may be.
func TestTextTold(t *testing.T) {
	wantText(t, api.Value{}, "nil")
	for _, c := range []struct {
		n    int
		want string
	}{
		{0, "0"}, {1, "1"}, {-1, "-1"}, {9, "9"}, {10, "10"}, {-10, "-10"}, {100, "100"}, {-12, "-12"}, {1234567890, "1234567890"},
		{most, "1099511627776"}, {-most, "-1099511627776"}, {most - 1, "1099511627775"}, {1 - most, "-1099511627775"},
	} {
		wantText(t, val(1, c.n, ""), c.want)
	}
	for _, s := range words() {
		wantText(t, val(2, 0, s), s)
	}
}

// P13.2: Text of what Check refuses.
func TestTextRefused(t *testing.T) {
	for _, c := range refused() {
		wantText(t, c.v, "nil")
	}
}

// P13.5: values that may be are read from their texts, and a text that is read
// as a value has that value's text, but for a number's noughts and signs.
func TestTextAndParse(t *testing.T) {
	l := mayBe()
	r := rand.New(rand.NewSource(135))
	for range 20000 {
		l = append(l, drawn(r))
	}
	for _, v := range l {
		wantParse(t, Text(v), v, api.OK)
	}
	for range 20000 {
		s := drawnText(r)
		v, err := Parse(s)
		if err != api.OK {
			continue
		}
		wantErr(t, s, Check(v), api.OK)
		if v.Kind != api.Number {
			wantText(t, v, s)
		}
		wantParse(t, Text(v), v, api.OK)
	}
}
