package parse

import (
	"slices"
	"strings"
	"testing"

	"intarsia/api"
)

// bounded tells a text with so many of something, and how many may be.
type bounded struct {
	what string
	most int
	text func(n int) string
}

func times(s string) func(int) string {
	return func(n int) string { return strings.Repeat(s, n) }
}

// within puts a repeated text into the place of an X.
func within(with, s string) func(int) string {
	return func(n int) string { return strings.ReplaceAll(with, "X", strings.Repeat(s, n)) }
}

// bounds are all that the chapter names. Their texts have blanks between their
// tokens, but for a Not.
func bounds() []bounded {
	nest := func(ahead, behind string) func(int) string {
		return func(n int) string {
			return "( p r ( a ) --> ( bind <z> " + strings.Repeat(ahead, n) + " 1 " + strings.Repeat(behind, n) + " ) ) "
		}
	}
	return []bounded{
		{"classes", 16, times("( literalize a b ) ")},
		{"classes among rules", 16, times("( literalize a b ) ( p r ( a ) --> ) ")},
		{"rules", 16, times("( p r ( a ) --> ) ")},
		{"attributes of a class", 6, within("( literalize a X ) ", " b ")},
		{"tests of a condition", 6, within("( p r ( a X ) --> ) ", " ^b 1 ")},
		{"tests of a negated condition", 6, within("( p r ( a ) - ( a X ) --> ) ", " ^b << 1 >> ")},
		{"sets of a make", 6, within("( p r ( a ) --> ( make a X ) ) ", " ^b 1 ")},
		{"sets of a modify", 6, within("( p r ( a ) --> ( modify 1 X ) ) ", " ^b ( + 1 <x> ) ")},
		{"conditions", 5, within("( p r X --> ) ", " ( a ) ")},
		{"negated conditions", 5, within("( p r X --> ) ", " - ( a ^b 1 ) ")},
		{"acts", 8, within("( p r ( a ) --> X ) ", " ( halt ) ")},
		{"other acts", 8, within("( p r ( a ) --> X ) ", " ( write 1 ) ")},
		{"Ones", 8, within("( p r ( a ^b << X >> ) --> ) ", " 1 ")},
		{"single tests", 8, within("( p r ( a ^b { X } ) --> ) ", " > <x> ")},
		{"expressions of a write", 8, within("( p r ( a ) --> ( write X ) ) ", " <x> ")},
		{"nesting to the right", 8, nest("( + 1 ", " ) ")},
		{"nesting to the left", 8, nest("( * ", " <x> ) ")},
	}
}

func spaced(text string) string { return joined(pieces(text)) }

// P15.1: at each bound, and one more, and many more.
func TestBounds(t *testing.T) {
	for _, b := range bounds() {
		for n := 1; n <= b.most; n++ {
			wantRead(t, spaced(b.text(n)))
		}
		for _, n := range []int{b.most + 1, b.most + 2, 2*b.most + 1, 100} {
			wantError(t, api.ErrLimit, spaced(b.text(n)))
		}
	}
}

// P15.1: each bound holds in each part anew.
func TestBoundsBeside(t *testing.T) {
	for _, b := range bounds() {
		if strings.HasPrefix(b.what, "classes") || b.what == "rules" {
			continue
		}
		wantRead(t, spaced(strings.Repeat(b.text(b.most), 10)))
		wantError(t, api.ErrLimit, spaced(strings.Repeat(b.text(b.most), 5)+b.text(b.most+1)+b.text(1)), spaced(b.text(b.most+1)+b.text(b.most)), spaced(b.text(b.most)+b.text(b.most+1)))
	}
	wantRead(t, strings.Repeat("(literalize a b)(p r (a) -->)", 16))
	wantError(t, api.ErrLimit, strings.Repeat("(literalize a b)(p r (a) -->)", 16)+"(literalize a b)", "(p r (a) -->)"+strings.Repeat("(literalize a b)(p r (a) -->)", 16))
}

// P15.1: in one rule all that may be, and each one more.
func TestBoundsTogether(t *testing.T) {
	parts := func(more int) []string {
		n := func(most, which int) int {
			if which == more {
				return most + 1
			}
			return most
		}
		singles := strings.Repeat("<> 1", n(8, 0))
		ones := strings.Repeat(" a", n(8, 1))
		attrs := strings.Repeat("^b {"+singles+"} ", n(5, 2)) + "^c <<" + ones + ">>"
		sum, _ := nested(n(8, 3), true)
		sets := strings.Repeat("^b "+sum, n(6, 4))
		writes := strings.Repeat(" 1", n(8, 5))
		conds := strings.Repeat("(a "+attrs+")", n(5, 6))
		acts := strings.Repeat("(make a "+sets+")(write"+writes+")", 4) + strings.Repeat("(halt)", n(0, 7))
		class := "(literalize a" + strings.Repeat(" b", n(6, 8)) + ")"
		return []string{strings.Repeat(class, n(16, 9)), ruled(conds, acts), strings.Repeat("(p r (a) -->)", n(15, 10))}
	}
	wantRead(t, strings.Join(parts(-1), ""))
	for more := range 11 {
		wantError(t, api.ErrLimit, strings.Join(parts(more), ""))
	}
}

// P15.1: ErrParse comes ahead of ErrLimit, wherever the one and the other stand;
// and lex.Scan's error ahead of both.
func TestParseAheadOfLimit(t *testing.T) {
	for _, b := range bounds() {
		over := spaced(b.text(b.most + 1))
		for _, wrong := range []string{")", "(", "a", "5", "(p r)", "(literalize a)", "(p r (a ^b) -->)", "(p r (a) --> (halt 1))", "(p r (a) --> (write (+ 1)))", "(p r (a ^b {}) -->)", "-(p r (a) -->)"} {
			wantError(t, api.ErrParse, over+wrong, wrong+over, over+wrong+over, over+over+wrong)
		}
		wantError(t, api.ErrLex, over+"#", "#"+over, over+" ) #", "# )"+over)
		wantError(t, api.ErrLong, over+strings.Repeat(" ", maxText), over+")"+strings.Repeat(" ", maxText), over+"#"+strings.Repeat(" ", maxText))
	}
}

// P15.1: the same within the part that has too many: each token taken away,
// doubled, or another one in its place.
func TestLimitsChanged(t *testing.T) {
	read := map[api.Errno]int{}
	for _, b := range bounds() {
		l := pieces(b.text(b.most + 1))
		for i := range l {
			read[wantAsGrammar(t, joined(slices.Delete(slices.Clone(l), i, i+1)))]++
			read[wantAsGrammar(t, joined(slices.Insert(slices.Clone(l), i, l[i])))]++
			for _, x := range []string{"(", ")", "{", ">>", "-->", "^b", "<x>", "=", "1", "a", "nil"} {
				m := slices.Clone(l)
				m[i] = x
				read[wantAsGrammar(t, joined(m))]++
			}
		}
	}
	if read[api.OK] < 20 || read[api.ErrParse] < 1000 || read[api.ErrLimit] < 500 || len(read) > 3 {
		t.Errorf("%v", read)
	}
}
