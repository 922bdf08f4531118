package parse

import (
	"strings"
	"testing"

	"intarsia/api"
)

// eachRow goes through all rows of up to so many of some texts.
func eachRow(texts []string, most int, visit func(string)) {
	visit("")
	if most == 0 {
		return
	}
	for _, x := range texts {
		eachRow(texts, most-1, func(rest string) { visit(x + rest) })
	}
}

// P15.1: all rows of a few tokens, in each place of a program: as the grammar
// says.
func TestPlaces(t *testing.T) {
	for _, c := range []struct {
		place  string
		tokens string
		most   int
	}{
		{"X", "( ) p literalize a 5 -( --> ^b", 4},
		{"(literalize X )", "( ) a 5 nil <x> ^b p - -(", 4},
		{"(p X (a) -->)", "( ) a 5 nil -( --> p", 4},
		{"(p r X -->)", "( ) -( - a ^b 5 <x> -->", 5},
		{"(p r (a ^b X ) -->)", "<< >> { } <x> = <> 5 a nil ^c (", 4},
		{"(p r (a X ) -->)", "<< >> { } <x> > 5 ^b )", 5},
		{"(p r (a) --> X )", "( ) make halt write 1 <x> ^b bind", 4},
		{"(p r (a) --> ( X ) )", "make modify remove bind write halt 1 <x> ^b a ( ) +", 4},
		{"(p r (a) --> (bind <z> X ) )", "( ) + - * 1 <x> nil ^b a", 4},
		{"(p r (a) --> (write ( X ) ) )", "( ) + - 1 <x> -(", 5},
		{"(p r (a) --> (make a ^b X ) )", "( ) + 1 <x> ^c = {", 5},
	} {
		var texts []string
		for _, x := range strings.Fields(c.tokens) {
			texts = append(texts, x+" ")
		}
		read := map[api.Errno]int{}
		eachRow(texts, c.most, func(row string) {
			read[wantAsGrammar(t, strings.Replace(c.place, "X", row, 1))]++
		})
		if read[api.OK] == 0 || read[api.ErrParse] == 0 {
			t.Errorf("%s: %v", c.place, read)
		}
	}
}
