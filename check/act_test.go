package check

import (
	"testing"

	"intarsia/api"
)

// wantAct asks for the error of one act, with <x> bound, of conditions c, d
// (negated) and c, as they were acted before; and that it is the same behind
// acts that may be, and ahead of acts that may not.
func wantAct(t *testing.T, a api.Act, want api.Errno) {
	t.Helper()
	wantRule(t, acting(a), want)
	halt, bind := api.Act{Kind: 5}, api.Act{Kind: 3, Var: "other"}
	wantRule(t, acting(halt, bind, a, halt), want)
	if want != api.OK {
		for _, wrong := range []api.Act{{Class: "e"}, {Kind: 2}, {Kind: 4, Exprs: exprs(items(variable("z")))}, {Sets: sets(setOf("z"))}} {
			wantRule(t, acting(a, wrong), want)
		}
	}
}

// P17.5: acts told by their text.
func TestActTexts(t *testing.T) {
	for text, want := range map[string]api.Errno{
		"(make c)":                                    api.OK,
		"(make c ^p 1 ^q <x>)":                        api.OK,
		"(make c ^q 1 ^p (+ <x> 2))":                  api.OK,
		"(make d ^q nil)":                             api.OK,
		"(make e)":                                    api.ErrClass,
		"(make e ^p <z> ^p 1)":                        api.ErrClass,
		"(make d ^p 1)":                               api.ErrAttr,
		"(make c ^p 1 ^z 1)":                          api.ErrAttr,
		"(make c ^p 1 ^q 2 ^p 3)":                     api.ErrThere,
		"(make c ^p <z>)":                             api.ErrVar,
		"(make c ^p 1 ^q (* 2 (- <x> <z>)))":          api.ErrVar,
		"(modify 1 ^p 1)":                             api.OK,
		"(modify 1 ^p 1 ^q <x>)":                      api.OK,
		"(modify 3 ^q 1 ^p <x>)":                      api.OK,
		"(modify 2 ^q 1)":                             api.ErrRange,
		"(modify 4 ^q 1)":                             api.ErrRange,
		"(modify 1 ^z 1)":                             api.ErrAttr,
		"(modify 3 ^q 1 ^q 1)":                        api.ErrThere,
		"(modify 3 ^q <y>)":                           api.ErrVar,
		"(remove 1)":                                  api.OK,
		"(remove 3)":                                  api.OK,
		"(remove 2)":                                  api.ErrRange,
		"(remove 4)":                                  api.ErrRange,
		"(bind <z> 1)":                                api.OK,
		"(bind <x> <x>)":                              api.OK,
		"(bind <z> <z>)":                              api.ErrVar,
		"(bind <x> (+ <x> <z>))":                      api.ErrVar,
		"(bind <z> 1) (bind <z> (+ <z> 1))":           api.OK,
		"(bind <z> <x>) (write <z> <x>)":              api.OK,
		"(bind <z> 1) (make c ^p <z>)":                api.OK,
		"(bind <z> 1) (modify 1 ^p (+ <z> <x>))":      api.OK,
		"(bind <z> 1) (bind <a> <z>) (write <a> <b>)": api.ErrVar,
		"(write <z>) (bind <z> 1)":                    api.ErrVar,
		"(bind <z> <z>) (bind <z> 1)":                 api.ErrVar,
		"(write)":                                     api.OK,
		"(write 1 a nil <x> (+ <x> 1))":               api.OK,
		"(write 1 a nil <x> (+ <z> 1))":               api.ErrVar,
		"(write <y>)":                                 api.ErrVar,
		"(halt)":                                      api.OK,
		"(halt) (make e)":                             api.ErrClass,
		"(remove 1) (modify 1 ^p 1) (remove 1)":       api.OK,
	} {
		wantRule(t, acting(ruleOf("(none) --> "+text).Acts...), want)
	}
}

// P17.5: Make asks for its class alone; other kinds ask for none.
func TestActClass(t *testing.T) {
	for kind := range 256 {
		a := api.Act{Kind: uint8(kind), Class: "e", N: 1}
		if kind == 0 {
			wantAct(t, a, api.ErrClass)
			a.Class = ""
			wantAct(t, a, api.ErrClass)
			a.Class = "p"
			wantAct(t, a, api.ErrClass)
			a.Class = "d"
		}
		wantAct(t, a, api.OK)
	}
}

// P17.5: Modify and Remove ask for N: from 1 to the last condition, and not of a
// negated one; other kinds do not.
func TestActN(t *testing.T) {
	for kind := range 256 {
		for n, ok := range map[int]bool{1: true, 3: true, 0: false, 2: false, 4: false, 5: false, -1: false, -3: false, 1 << 62: false, -1 << 63: false, 1<<63 - 1: false, 1<<32 + 1: false, 257: false} {
			a := api.Act{Kind: uint8(kind), Class: "c", N: n}
			if ok || kind != 1 && kind != 2 {
				wantAct(t, a, api.OK)
			} else {
				wantAct(t, a, api.ErrRange)
			}
		}
	}
}

// P17.5: N at the last condition, one more, and a negated one, however many
// conditions there are.
func TestActNOfMany(t *testing.T) {
	for many := 1; many < 7; many++ {
		for neg := range many {
			for n := -1; n < many+3; n++ {
				r := api.Rule{Acts: []api.Act{{Kind: 2, N: n}}}
				for i := range many {
					c := of("(c)")
					c.Neg = i == neg && i > 0
					r.Conds = append(r.Conds, c)
				}
				want := api.ErrRange
				if n == 1 || n > 1 && n <= many && n != neg+1 {
					want = api.OK
				}
				wantRule(t, r, want)
				r.Acts[0].Kind = 1
				wantRule(t, r, want)
			}
		}
	}
}

// P17.5: ErrRange comes ahead of what is wrong in sets and expressions, and
// ErrClass, too.
func TestActFirst(t *testing.T) {
	wrong := api.Act{Class: "e", Sets: sets(setOf("z", variable("z"))), Exprs: exprs(items(variable("z")))}
	wantAct(t, wrong, api.ErrClass)
	wrong.Kind = 1
	wantAct(t, wrong, api.ErrRange)
	wrong.Kind = 2
	wantAct(t, wrong, api.ErrRange)
}

// P17.5: the class of a Modify's sets is that of its condition, whatever class
// it names itself; that of all others the one that they name.
func TestSetsClass(t *testing.T) {
	p, q := sets(setOf("p")), sets(setOf("q"))
	r := ruleOf("(c) (d) -->")
	for _, x := range []struct {
		class string
		n     int
		sets  []api.Set
		want  api.Errno
	}{
		{"", 1, p, api.OK}, {"d", 1, p, api.OK}, {"c", 1, p, api.OK}, {"e", 1, q, api.OK},
		{"", 2, p, api.ErrAttr}, {"c", 2, p, api.ErrAttr}, {"d", 2, p, api.ErrAttr}, {"c", 2, q, api.OK},
	} {
		r.Acts = []api.Act{{Kind: 1, N: x.n, Class: x.class, Sets: x.sets}}
		wantRule(t, r, x.want)
	}
	for kind := range 256 {
		if kind == 1 {
			continue
		}
		for n := 1; n < 3; n++ {
			for class, want := range map[string]api.Errno{"c": api.OK, "d": api.ErrAttr, "e": api.ErrAttr, "": api.ErrAttr} {
				if kind == 0 && class != "c" && class != "d" {
					want = api.ErrClass
				}
				r.Acts = []api.Act{{Kind: uint8(kind), N: n, Class: class, Sets: p}}
				wantRule(t, r, want)
			}
		}
	}
}

// P17.5: sets' errors, in their order, in acts of each kind, also of those that
// have no sets in a text.
func TestSets(t *testing.T) {
	one := api.Item{Val: api.Value{Kind: 1, N: 1}}
	z, x := variable("z"), variable("x")
	for _, c := range []struct {
		l    []api.Set
		want api.Errno
	}{
		{nil, api.OK},
		{sets(setOf("p")), api.OK},
		{sets(setOf("p", one), setOf("q", x)), api.OK},
		{sets(setOf("q", x), setOf("p", x)), api.OK},
		{sets(setOf("z", one)), api.ErrAttr},
		{sets(setOf("")), api.ErrAttr},
		{sets(setOf("p", one), setOf("z", one)), api.ErrAttr},
		{sets(setOf("z", z)), api.ErrAttr},
		{sets(setOf("z"), setOf("z")), api.ErrAttr},
		{sets(setOf("p", one), setOf("p", one)), api.ErrThere},
		{sets(setOf("p"), setOf("q"), setOf("p")), api.ErrThere},
		{sets(setOf("p"), setOf("q"), setOf("q")), api.ErrThere},
		{sets(setOf("p"), setOf("p", z)), api.ErrThere},
		{sets(setOf("p"), setOf("p"), setOf("z")), api.ErrThere},
		{sets(setOf("p"), setOf("z"), setOf("p")), api.ErrAttr},
		{sets(setOf("p", z)), api.ErrVar},
		{sets(setOf("p", one), setOf("q", x, z)), api.ErrVar},
		{sets(setOf("p", z), setOf("p")), api.ErrVar},
		{sets(setOf("p", z), setOf("z")), api.ErrVar},
		{sets(setOf("z"), setOf("p", z)), api.ErrAttr},
		{sets(setOf("p", x), setOf("q", z), setOf("p")), api.ErrVar},
		{sets(setOf("p", variable("y"))), api.ErrVar},
	} {
		for _, kind := range []uint8{0, 1, 2, 3, 4, 5, 6, 7, 128, 255} {
			for _, n := range []int{1, 3} {
				a := api.Act{Kind: kind, Class: "c", N: n, Var: "w", Sets: c.l}
				wantAct(t, a, c.want)
				a.Exprs = exprs(items(x), items(one))
				wantAct(t, a, c.want)
				a.Exprs = exprs(items(x), items(z))
				want := c.want
				if want == api.OK {
					want = api.ErrVar
				}
				wantAct(t, a, want)
			}
		}
	}
}

// P17.5: expressions in acts of each kind, at each of three places.
func TestActExprs(t *testing.T) {
	one := api.Item{Val: api.Value{Kind: 1, N: 1}}
	for kind := range 256 {
		for at := range 3 {
			l := exprs(items(one), items(variable("x")), nil)
			a := api.Act{Kind: uint8(kind), Class: "d", N: 1, Var: "z", Exprs: l}
			wantAct(t, a, api.OK)
			l[at] = items(one, variable("z"), one)
			wantAct(t, a, api.ErrVar)
		}
	}
}

// P17.5: behind a Bind its Var is bound, of the empty name, too; behind an act
// of another kind it is not, nor ahead of the Bind.
func TestBind(t *testing.T) {
	for _, name := range []string{"z", "", "\xff", "y"} {
		told := api.Act{Kind: 4, Exprs: exprs(items(variable(name)))}
		made := api.Act{Class: "c", Sets: sets(setOf("p", variable(name)))}
		changed := api.Act{Kind: 1, N: 3, Sets: sets(setOf("p", variable(name)))}
		for kind := range 256 {
			a := api.Act{Kind: uint8(kind), Class: "c", N: 1, Var: name}
			for _, asks := range []api.Act{told, made, changed} {
				want := api.ErrVar
				if kind == 3 {
					want = api.OK
				}
				wantRule(t, acting(a, asks), want)
				wantRule(t, acting(a, api.Act{Kind: 5}, asks), want)
				wantRule(t, acting(asks, a), api.ErrVar)
			}
		}
		own := api.Act{Kind: 3, Class: "c", Var: name, Exprs: exprs(items(variable(name)))}
		wantRule(t, acting(own), api.ErrVar)
		own.Exprs, own.Sets = nil, sets(setOf("p", variable(name)))
		wantRule(t, acting(own), api.ErrVar)
		wantRule(t, acting(api.Act{Kind: 3, Var: name}, own), api.OK)
	}
}

// P17.5: of a rule's acts the first one's error.
func TestActsInOrder(t *testing.T) {
	wrong := []api.Act{{Class: "e"}, {Kind: 2, N: 2}, {Class: "c", Sets: sets(setOf("z"))},
		{Class: "c", Sets: sets(setOf("p"), setOf("p"))}, {Kind: 4, Exprs: exprs(items(variable("z")))}}
	errs := []api.Errno{api.ErrClass, api.ErrRange, api.ErrAttr, api.ErrThere, api.ErrVar}
	for i := range wrong {
		for k := range wrong {
			wantRule(t, acting(wrong[i], wrong[k]), errs[i])
			wantRule(t, acting(api.Act{Kind: 5}, wrong[i], api.Act{Kind: 4}, wrong[k]), errs[i])
		}
	}
}
