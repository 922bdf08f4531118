package check

import (
	"testing"

	"intarsia/api"
)

// The chapter's example.
func TestExample(t *testing.T) {
	wantText(t, "(p r (c ^p <x>) -(d ^q > <x>) --> (make c ^p <x>))", api.OK)
	wantText(t, "(p r (c ^p <x>) -(d ^q <y>) (c ^p > <y>) --> (make c ^p <x>))", api.ErrVar)
}

// P17.5: programs without classes, or rules.
func TestProgramOfNothing(t *testing.T) {
	wantProgram(t, api.Program{}, api.OK)
	wantProgram(t, api.Program{Classes: []api.Class{}, Rules: make([]api.Rule, 0, 4)}, api.OK)
	wantProgram(t, programOf("(p r (c) -->)"), api.ErrClass)
	wantText(t, "", api.OK)
	wantText(t, "(p r (c) -->)", api.OK)
	wantText(t, "(p r (none) -->)", api.ErrKind)
}

// P17.5: the classes' error comes ahead of the rules'.
func TestProgramClasses(t *testing.T) {
	for _, rest := range []string{"", "(p r (c) -->)", "(p r (none) -->)", "(p r (e) -->)", "(p r (d ^p 1) -->)", "(p r (c) --> (remove 2))", "(p r (c) --> (write <x>))"} {
		wantText(t, "(literalize c a) "+rest, api.ErrThere)
		wantText(t, "(literalize f a a) "+rest, api.ErrThere)
		wantText(t, rest+"(literalize d a)", api.ErrThere)
	}
}

// P17.5: two rules of one name, ahead of the second one's own error, and behind
// the first one's.
func TestProgramNames(t *testing.T) {
	for text, want := range map[string]api.Errno{
		"(p r (c) -->) (p s (c) -->)":                             api.OK,
		"(p c (c) -->) (p p (c) -->) (p q (d) -->)":               api.OK,
		"(p r (c) -->) (p r (c) -->)":                             api.ErrThere,
		"(p r (c) -->) (p r (d) --> (halt))":                      api.ErrThere,
		"(p r (c) -->) (p s (c) -->) (p r (d) -->)":               api.ErrThere,
		"(p r (c) -->) (p s (c) -->) (p s (d) -->)":               api.ErrThere,
		"(p r (c) -->) (p r (none) -->)":                          api.ErrThere,
		"(p r (c) -->) (p r (e) -->)":                             api.ErrThere,
		"(p r (c) -->) (p r (c) --> (write <x>))":                 api.ErrThere,
		"(p r (none) -->) (p r (c) -->)":                          api.ErrKind,
		"(p r (e) -->) (p r (c) -->)":                             api.ErrClass,
		"(p r (c) -->) (p s (c) --> (remove 2)) (p r (c) -->)":    api.ErrRange,
		"(p r (c) -->) (p r (c) -->) (p s (c) --> (remove 2))":    api.ErrThere,
		"(p r (c) -->) (p R (c) -->)":                             api.OK,
		"(p r (c) -->) (p s (d ^p 1) -->) (p s (c) --> (make e))": api.ErrAttr,
	} {
		wantText(t, text, want)
	}
}

// P17.5: the empty name, and others that no text has, are names, too.
func TestProgramOddNames(t *testing.T) {
	for _, name := range []string{"", "\xff", "a b"} {
		r, s := ruleOf("(c) -->"), ruleOf("(d) -->")
		r.Name, s.Name = name, name+"x"
		wantProgram(t, api.Program{Classes: twoClasses(), Rules: []api.Rule{r, s}}, api.OK)
		s.Name = name
		wantProgram(t, api.Program{Classes: twoClasses(), Rules: []api.Rule{r, s}}, api.ErrThere)
	}
}

// P17.5: of several rules' errors the first one's, wherever they stand.
func TestProgramInOrder(t *testing.T) {
	wrong := map[string]api.Errno{
		"(none) -->": api.ErrKind, "(e) -->": api.ErrClass, "(d ^p 1) -->": api.ErrAttr, "(d ^q 1 ^q 1) -->": api.ErrThere, "(c ^p > <x>) -->": api.ErrVar,
		"(c) --> (make e)": api.ErrClass, "(c) --> (modify 0 ^p 1)": api.ErrRange, "(c) --> (make d ^p 1)": api.ErrAttr,
		"(c) --> (make d ^q 1 ^q 1)": api.ErrThere, "(c) --> (write <x>)": api.ErrVar,
	}
	for a, want := range wrong {
		for b := range wrong {
			wantText(t, "(p r "+a+") (p s "+b+")", want)
			wantText(t, "(p o (c) -->) (p r "+a+") (p q (d) --> (halt)) (p s "+b+")", want)
		}
		wantText(t, "(p o (c) -->) (p q (d) -->) (p r "+a+")", want)
	}
}

// P17.5: what one rule binds is not bound in the next one.
func TestProgramBound(t *testing.T) {
	wantText(t, "(p r (c ^p <x>) --> (bind <y> 1)) (p s (c ^p <x>) --> (bind <y> <x>) (write <y>))", api.OK)
	wantText(t, "(p r (c ^p <x>) -->) (p s (c ^p > <x>) -->)", api.ErrVar)
	wantText(t, "(p r (c ^p <x>) -->) (p s (c) --> (write <x>))", api.ErrVar)
	wantText(t, "(p r (c) --> (bind <y> 1)) (p s (c) --> (write <y>))", api.ErrVar)
}
