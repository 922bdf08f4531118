package check

import (
	"slices"
	"testing"

	"intarsia/api"
)

// P17.5: without conditions, and with a negated one as the first, ErrKind comes
// ahead of all else.
func TestRuleFirst(t *testing.T) {
	for _, text := range []string{"(none) -->", "(none) --> (halt)", "(none) --> (make e)", "(none) --> (write <x>)", "(none) --> (remove 1)",
		"-(c) -->", "-(c) (c) -->", "-(c) -(c) -->", "-(e) -->", "-(c ^p > <x>) -->", "-(d ^p 1) (e) --> (make e)", "-(d ^q 1 ^q 2) -->"} {
		wantRule(t, ruleOf(text), api.ErrKind)
	}
	wantRule(t, api.Rule{Name: "r", Conds: make([]api.Cond, 0, 3)}, api.ErrKind)
	wantRule(t, api.Rule{}, api.ErrKind)
	for _, text := range []string{"(c) -->", "(c) -(c) -->", "(c) -(d) -(c) -->", "(c) -(d) (c) -(d) (d) -->"} {
		wantRule(t, ruleOf(text), api.OK)
	}
}

// P17.5: each of a condition's errors, in the first, a middle and the last one;
// a negated one's, too, where it is not the first.
func TestRuleConds(t *testing.T) {
	for text, want := range map[string]api.Errno{
		"(e)": api.ErrClass, "(d ^p 1)": api.ErrAttr, "(d ^q 1 ^q 2)": api.ErrThere, "(d ^q > <z>)": api.ErrVar,
		"(c ^p <z> ^q { <z> <> <a> })": api.ErrVar, "(c ^q 1 ^r <z>)": api.ErrAttr,
	} {
		for at := range 5 {
			r := ruleOf("(c ^p <x>) -(d ^q > <x>) (c) (d ^q <y>) -(c ^p < <y>) -->")
			wantRule(t, r, api.OK)
			r.Conds[at] = of(text)
			wantRule(t, r, want)
			r.Conds[at].Neg = true
			if at == 0 {
				wantRule(t, r, api.ErrKind)
			} else {
				wantRule(t, r, want)
			}
		}
	}
}

// P17.5: of several conditions' errors the first one's, and all of them ahead of
// the acts'.
func TestRuleCondsInOrder(t *testing.T) {
	wrong := []api.Cond{of("(e)"), of("(d ^p 1)"), of("(d ^q 1 ^q 2)"), of("(d ^q > <z>)")}
	errs := []api.Errno{api.ErrClass, api.ErrAttr, api.ErrThere, api.ErrVar}
	for i := range wrong {
		for k := range wrong {
			r := api.Rule{Conds: []api.Cond{of("(c)"), wrong[i], of("(d)"), negated(wrong[k])}}
			r.Acts = ruleOf("(c) --> (remove 9)").Acts
			wantRule(t, r, errs[i])
			r.Conds = []api.Cond{wrong[i], negated(wrong[k])}
			wantRule(t, r, errs[i])
		}
	}
}

// P17.5: what one condition binds is asked in another; what a negated one binds
// is not bound behind it.
func TestRuleBound(t *testing.T) {
	for text, want := range map[string]api.Errno{
		"(c ^p <x>) (d ^q > <x>) -->":                              api.OK,
		"(c ^p <x>) -(d ^q > <x>) -->":                             api.OK,
		"(c ^p <x>) (c ^p <y>) (c ^p > <x> ^q < <y>) -->":          api.OK,
		"(c ^p <x>) (c) (c) (c) (d ^q <> <x>) -->":                 api.OK,
		"(d ^q > <x>) (c ^p <x>) -->":                              api.ErrVar,
		"(c) (d ^q > <x>) (c ^p <x>) -->":                          api.ErrVar,
		"(c ^p <x>) -(d ^q <y>) (c ^p > <y>) -->":                  api.ErrVar,
		"(c ^p <x>) -(d ^q <y>) -(c ^p > <y>) -->":                 api.ErrVar,
		"(c ^p <x>) -(d ^q <y>) (c ^p <y>) -->":                    api.OK,
		"(c ^p <x>) -(d ^q <y>) (c ^p <y>) (c ^p > <y>) -->":       api.OK,
		"(c ^p <x>) -(c ^p <y> ^q > <y>) -(c ^p <y> ^q < <y>) -->": api.OK,
		"(c ^p <x>) -(d ^q <x>) (c ^p > <x>) -->":                  api.OK,
		"(c ^p <x>) -(c ^p <x> ^q <y>) (c ^p > <x>) -->":           api.OK,
		"(c ^p <x>) -(c ^p <x> ^q <y>) (c ^p > <y>) -->":           api.ErrVar,
		"(c) -(d ^q <y>) --> (write <y>)":                          api.ErrVar,
		"(c) -(d ^q <y>) (d ^q <y>) --> (write <y>)":               api.OK,
		"(c ^p <x>) -(d ^q <x>) --> (write <x>)":                   api.OK,
		"(c ^p <x>) (c ^q <y>) -(c) --> (make c ^p <x> ^q <y>)":    api.OK,
	} {
		wantRule(t, ruleOf(text), want)
	}
}

// P17.5: at first nothing is bound, not even the empty name.
func TestRuleBoundAtFirst(t *testing.T) {
	wantRule(t, acting(api.Act{Kind: 4, Exprs: exprs(items(variable("")))}), api.ErrVar)
	wantRule(t, ruleOf("(c ^p > <x>) -->"), api.ErrVar)
	wantRule(t, ruleOf("(c) --> (write <x>)"), api.ErrVar)
}

// P17.5: Rule takes any classes, also those that may not be: of two of one name
// the first one counts.
func TestRuleOddClasses(t *testing.T) {
	l := []api.Class{classOf("c", "p", "p"), classOf("c", "q"), classOf("", "")}
	for text, want := range map[string]api.Errno{
		"(c ^p 1) --> (make c ^p 1) (modify 1 ^p 2)": api.OK,
		"(c ^q 1) -->":                 api.ErrAttr,
		"(c) --> (make c ^q 1)":        api.ErrAttr,
		"(c) --> (modify 1 ^q 1)":      api.ErrAttr,
		"(c) --> (make c ^p 1 ^p 1)":   api.ErrThere,
		"(c) --> (modify 1 ^p 1 ^p 1)": api.ErrThere,
		"(d) -->":                      api.ErrClass,
	} {
		r := ruleOf(text)
		kept(t, func() { wantErr(t, "Rule", Rule(l, r), ruleErr(l, r), want, text) }, l, r)
		kept(t, func() { wantErr(t, "Rule", Rule(nil, r), ruleErr(nil, r), api.ErrClass, text) }, r)
	}
	r := api.Rule{Conds: []api.Cond{condOf("", tests("", ofVar(0, "x")))}, Acts: []api.Act{{Sets: sets(setOf("", variable("x")))}}}
	wantErr(t, "Rule", Rule(l, r), ruleErr(l, r), api.OK, r)
}

// P17.5: a rule's name is not asked by Rule.
func TestRuleName(t *testing.T) {
	for _, name := range []string{"", "c", "nil", "\xff", "a b"} {
		r := ruleOf("(c) -->")
		r.Name = name
		wantRule(t, r, api.OK)
	}
}

// P17.5: Rule answers what Cond does, whatever stood ahead.
func TestRuleIsOfConds(t *testing.T) {
	texts := []string{"(c ^p <x>)", "(c ^q <x> ^p > <x>)", "-(d ^q <x>)", "-(d ^q > <x>)", "(d ^q <y>)", "-(c ^p <y> ^q <> <y>)", "(c ^p { > <y> <x> })"}
	for _, a := range texts {
		for _, b := range texts {
			for _, c := range texts {
				conds := []api.Cond{of(a), of(b), of(c)}
				var bound []string
				want := api.OK
				for i, c := range conds {
					if want == api.OK {
						bound, want = Cond(twoClasses(), c, bound)
					}
					if i == 0 && c.Neg {
						want = api.ErrKind
					}
				}
				wantRule(t, api.Rule{Conds: conds}, want)
				for _, name := range []string{"x", "y"} {
					act := api.Act{Kind: 4, Exprs: exprs(items(variable(name)))}
					if want == api.OK && !slices.Contains(bound, name) {
						wantRule(t, api.Rule{Conds: conds, Acts: []api.Act{act}}, api.ErrVar)
					} else {
						wantRule(t, api.Rule{Conds: conds, Acts: []api.Act{act}}, want)
					}
				}
			}
		}
	}
}
