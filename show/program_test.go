package show

import (
	"slices"
	"strings"
	"testing"

	"intarsia/api"
)

func remove(n int) api.Act { return api.Act{Kind: api.Remove, N: n} }
func halt() api.Act        { return api.Act{Kind: api.Halt} }
func write(l ...[]api.Item) api.Act {
	return api.Act{Kind: api.Write, Exprs: l}
}

// P16.4: a rule's name, its conditions and its acts, none, one and several, in
// their order.
func TestRule(t *testing.T) {
	one, not := condOf("a", tests("b", ofVal(4, num(3)))), negated("c")
	hi := write(items(constant(sym("hi"))))
	wantRule(t, api.Rule{}, "(p  -->)")
	wantRule(t, api.Rule{Name: "r"}, "(p r -->)")
	wantRule(t, api.Rule{Name: "r", Conds: []api.Cond{}, Acts: []api.Act{}}, "(p r -->)")
	wantRule(t, api.Rule{Name: "r", Conds: []api.Cond{one}}, "(p r (a ^b > 3) -->)")
	wantRule(t, api.Rule{Name: "r", Acts: []api.Act{halt()}}, "(p r --> (halt))")
	wantRule(t, api.Rule{Name: "r", Conds: []api.Cond{one, not}, Acts: []api.Act{hi, halt()}}, "(p r (a ^b > 3) -(c) --> (write hi) (halt))")
	wantRule(t, api.Rule{Name: "r", Conds: []api.Cond{not, one, one}, Acts: []api.Act{halt(), remove(1), hi}}, "(p r -(c) (a ^b > 3) (a ^b > 3) --> (halt) (remove 1) (write hi))")
	for _, name := range []string{"", "12", "nil", "a b", "-->", "\xff"} {
		wantRule(t, api.Rule{Name: name, Conds: []api.Cond{not}}, "(p "+name+" -(c) -->)")
	}
}

// P16.4: an act without a text leaves its blank.
func TestRuleOfOtherActs(t *testing.T) {
	for _, kind := range []uint8{6, 255} {
		x := filled(kind)
		wantRule(t, api.Rule{Name: "r", Acts: []api.Act{x}}, "(p r --> )")
		wantRule(t, api.Rule{Name: "r", Acts: []api.Act{x, halt(), x}}, "(p r -->  (halt) )")
	}
}

// P16.4: classes ahead of rules, none, one and several of each, in their order.
func TestText(t *testing.T) {
	a, b, c := classOf("a", "x"), classOf("b", "y", "z", "y"), classOf("c")
	r := api.Rule{Name: "r", Conds: []api.Cond{condOf("a")}}
	s := api.Rule{Name: "s", Acts: []api.Act{halt()}}
	wantProgram(t, api.Program{}, "")
	wantProgram(t, api.Program{Classes: []api.Class{}, Rules: []api.Rule{}}, "")
	wantProgram(t, api.Program{Classes: []api.Class{a}}, "(literalize a x)\n")
	wantProgram(t, api.Program{Classes: []api.Class{c}}, "(literalize c)\n")
	wantProgram(t, api.Program{Classes: []api.Class{{}}}, "(literalize )\n")
	wantProgram(t, api.Program{Classes: []api.Class{{Name: "a", Attrs: []string{}}}}, "(literalize a)\n")
	wantProgram(t, api.Program{Classes: []api.Class{{Attrs: []string{"", "a b", ""}}}}, "(literalize   a b )\n")
	wantProgram(t, api.Program{Classes: []api.Class{b, a, c, b}}, "(literalize b y z y)\n(literalize a x)\n(literalize c)\n(literalize b y z y)\n")
	wantProgram(t, api.Program{Rules: []api.Rule{r}}, "(p r (a) -->)\n")
	wantProgram(t, api.Program{Rules: []api.Rule{{}}}, "(p  -->)\n")
	wantProgram(t, api.Program{Rules: []api.Rule{s, r, s}}, "(p s --> (halt))\n(p r (a) -->)\n(p s --> (halt))\n")
	wantProgram(t, api.Program{Classes: []api.Class{b, a}, Rules: []api.Rule{s, r}}, "(literalize b y z y)\n(literalize a x)\n(p s --> (halt))\n(p r (a) -->)\n")
}

// Rule 1: a program of more than may be is told as any other.
func TestLongText(t *testing.T) {
	n := 200000
	p := api.Program{
		Classes: slices.Repeat([]api.Class{classOf("c", "d")}, n),
		Rules:   slices.Repeat([]api.Rule{{Name: "r", Conds: []api.Cond{condOf("a")}}}, n),
	}
	want := strings.Repeat("(literalize c d)\n", n) + strings.Repeat("(p r (a) -->)\n", n)
	if s := Text(p); s != want {
		t.Errorf("%d bytes; want %d", len(s), len(want))
	}
}
