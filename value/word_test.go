package value

import (
	"math/rand"
	"strings"
	"testing"
)

func wantWord(t *testing.T, s string, want bool) {
	t.Helper()
	if got := Word(s); got != want {
		t.Errorf("Word(%.40q) = %#v, want %#v", s, got, want)
	}
	if wordByTable(s) != want {
		t.Errorf("%.40q: the test's own table tells otherwise", s)
	}
}

// P13.1: words, words that are numbers, and what is none.
func TestWordTold(t *testing.T) {
	for _, s := range words() {
		wantWord(t, s, true)
	}
	for _, w := range numberWords() {
		wantWord(t, w.s, true)
	}
	wantWord(t, "nil", true)
	for _, s := range noWords() {
		wantWord(t, s, false)
	}
}

// P13.1: no byte, 24 of them, 25, of code points of each width.
func TestWordLengths(t *testing.T) {
	for _, point := range []string{"a", "7", "\u00e9", "\u20ac", "\U0001f600"} {
		for n := range 60 {
			s := strings.Repeat(point, n)
			wantWord(t, s, 1 <= len(s) && len(s) <= 24)
			s = "a" + s
			wantWord(t, s, len(s) <= 24)
		}
	}
}

// P13.1: each byte alone, and in the middle of others.
func TestWordBytes(t *testing.T) {
	for c := range 256 {
		s := string([]byte{byte(c)})
		want := c < 0x80 && strings.Contains(allowed, s)
		wantWord(t, s, want)
		wantWord(t, "a"+s+"b", want)
		wantWord(t, "\u00e9"+s, want)
	}
}

// P13.1: each code point, surrogates left out, as UTF-8 has no bytes for them.
func TestWordPoints(t *testing.T) {
	for r := rune(0); r <= 0x10ffff; r++ {
		if 0xd800 <= r && r <= 0xdfff {
			continue
		}
		s := string(r)
		if want := r >= 0x80 || strings.Contains(allowed, s); Word(s) != want {
			t.Fatalf("Word of the code point %x is not %#v", r, want)
		}
	}
}

// P13.1: all texts of two bytes, all of three that begin as such, and of four
// at the edges of what may stand in them; also behind good bytes, and ahead.
func TestWordUTF8(t *testing.T) {
	check := func(b ...byte) {
		s := string(b)
		want := wordByTable(s)
		if Word(s) != want || Word("ab"+s) != want || Word("\u20ac"+s) != want || Word(s+"c") != wordByTable(s+"c") {
			t.Fatalf("Word of %x is not %#v", s, want)
		}
	}
	for a := range 256 {
		for b := range 256 {
			check(byte(a), byte(b))
		}
	}
	edges := []byte{0, 'a', 0x7f, 0x80, 0x8f, 0x90, 0x9f, 0xa0, 0xbf, 0xc0, 0xff}
	for a := 0xe0; a <= 0xff; a++ {
		for b := range 256 {
			for _, c := range edges {
				check(byte(a), byte(b), c)
				for _, d := range edges {
					check(byte(a), byte(b), c, d)
				}
			}
		}
	}
}

// P13.1: drawn texts.
func TestWordDrawn(t *testing.T) {
	r := rand.New(rand.NewSource(13))
	for range 50000 {
		s := drawnText(r)
		wantWord(t, s, wordByTable(s))
		b := make([]byte, r.Intn(6))
		r.Read(b)
		wantWord(t, string(b), wordByTable(string(b)))
	}
}
