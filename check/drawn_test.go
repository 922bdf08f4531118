package check

import (
	"math/rand"
	"slices"
	"testing"

	"intarsia/api"
)

// drawer draws programs that may be mostly, but for a slip now and then. Its
// lists have spare room with something in it.
type drawer struct {
	*rand.Rand
	slips int // of how many steps one slips; 0: none
}

func (d drawer) slip() bool { return d.slips > 0 && d.Intn(d.slips) == 0 }

// some draws parts, and lays one of them once more in the spare room.
func some[T any](d drawer, least, most int, part func() T) []T {
	var l []T
	for range least + d.Intn(most-least+1) {
		l = append(l, part())
	}
	if n := len(l); n > 0 && d.Intn(2) == 0 {
		l = append(l, l[d.Intn(n)])[:n]
	}
	return l
}

// pick draws one of some names, if there are any.
func (d drawer) pick(l []string) string {
	if len(l) == 0 {
		return d.any()
	}
	return l[d.Intn(len(l))]
}

func (d drawer) any() string {
	return []string{"a", "b", "c", "p", "q", "", "x", "y", "\xff"}[d.Intn(9)]
}

// unlike draws some of the names, each once, but for slips.
func (d drawer) unlike(least, most int, of []string) []string {
	l := slices.Clone(of)
	d.Shuffle(len(l), func(i, k int) { l[i], l[k] = l[k], l[i] })
	l = l[:min(len(l), least+d.Intn(most-least+1))]
	for i := range l {
		if d.slip() {
			l[i] = d.pick([]string{d.any(), l[d.Intn(len(l))]})
		}
	}
	return l
}

func (d drawer) classes() []api.Class {
	var l []api.Class
	for _, name := range d.unlike(1, 4, []string{"a", "b", "c", "d", ""}) {
		l = append(l, classOf(name, d.unlike(0, 4, []string{"p", "q", "r", "s", ""})...))
	}
	return l
}

// known are the variables that a drawn rule has bound, as far as the drawer
// cares: which ones are is the program's to tell.
type known struct {
	drawer
	classes []api.Class
	vars    []string
}

func (k *known) variable() string {
	if k.slip() {
		return k.any()
	}
	return k.pick(k.vars)
}

func (k *known) class() api.Class {
	if k.slip() || len(k.classes) == 0 {
		return classOf(k.any(), "p", "q")
	}
	return k.classes[k.Intn(len(k.classes))]
}

func (k *known) test() api.Test {
	v := api.Value{Kind: uint8(k.Intn(3)), N: k.Intn(9)}
	switch k.Intn(4) {
	case 0:
		return api.Test{Pred: uint8(k.Intn(6)), Val: v}
	case 1:
		if len(k.vars) > 0 || k.slip() {
			return api.Test{Pred: uint8(1 + k.Intn(8)), Var: k.variable(), Val: v}
		}
	}
	x := api.Test{Var: []string{"x", "y", "z", "w"}[k.Intn(4)]}
	k.vars = append(k.vars, x.Var)
	return x
}

func (k *known) cond() api.Cond {
	class := k.class()
	c, was := condOf(class.Name), len(k.vars)
	c.Neg = k.Intn(4) == 0
	for _, a := range k.unlike(0, 4, class.Attrs) {
		t := tests(a, some(k.drawer, 0, 3, k.test)...)
		t.Ones = some(k.drawer, 0, 1, func() api.Value { return api.Value{Kind: uint8(k.Intn(4))} })
		c.Attrs = append(c.Attrs, t)
	}
	if c.Neg && !k.slip() {
		k.vars = k.vars[:was]
	}
	return c
}

func (k *known) item() api.Item {
	x := api.Item{Kind: uint8(k.Intn(6)), Val: api.Value{Kind: 2, S: "x"}}
	if x.Kind == 1 && (len(k.vars) > 0 || k.slip()) {
		x.Var = k.variable()
	} else if x.Kind == 1 {
		x.Kind = 0
	}
	return x
}

func (k *known) expr() []api.Item { return some(k.drawer, 0, 3, k.item) }

func (k *known) act(conds []api.Cond) api.Act {
	class := k.class()
	a := api.Act{Kind: uint8(k.Intn(6)), Class: class.Name, N: k.Intn(8) - 1, Var: k.pick([]string{"x", "y", "v", "u"})}
	if a.Kind == 1 || a.Kind == 2 {
		for i, c := range conds {
			if !c.Neg && (i == 0 || k.Intn(3) > 0) {
				a.N = i + 1
			}
		}
		if k.slip() {
			a.N = k.Intn(8) - 1
		}
	}
	if a.Kind == 1 && a.N > 0 && a.N <= len(conds) {
		class, _ = firstClass(k.classes, conds[a.N-1].Class)
	}
	for _, name := range k.unlike(0, 3, class.Attrs) {
		a.Sets = append(a.Sets, setOf(name, k.expr()...))
	}
	a.Exprs = some(k.drawer, 0, 2, k.expr)
	if a.Kind == 3 {
		k.vars = append(k.vars, a.Var)
	}
	if k.slip() {
		a.Kind = uint8(k.Intn(256))
	}
	return a
}

func (d drawer) rule(name string, l []api.Class) api.Rule {
	k := &known{drawer: d, classes: l}
	r := api.Rule{Name: name, Conds: some(d, 1, 4, k.cond)}
	if len(r.Conds) > 0 && !d.slip() {
		r.Conds[0].Neg = false
	}
	r.Acts = some(d, 0, 4, func() api.Act { return k.act(r.Conds) })
	return r
}

func (d drawer) program() api.Program {
	p := api.Program{Classes: d.classes()}
	for _, name := range d.unlike(0, 3, []string{"r", "s", "t", ""}) {
		p.Rules = append(p.Rules, d.rule(name, p.Classes))
	}
	return p
}

// P17.2 to P17.5, and rules 1 and 3: whatever is drawn, no call panics, changes
// what it is given, or tells another error than the chapter's words; and it tells
// the same twice.
func TestDrawn(t *testing.T) {
	met := map[api.Errno]int{}
	for i := range 20000 {
		d := drawer{rand.New(rand.NewSource(int64(i))), []int{0, 3, 12, 40}[i%4]}
		p := d.program()
		kept(t, func() {
			for range 2 {
				if got, want := Program(p), programErr(p); got != want {
					t.Fatalf("Program(%+v) = %d; want %d", p, int(got), int(want))
				}
			}
			if got, want := Classes(p.Classes), classesErr(p.Classes); got != want {
				t.Fatalf("Classes(%+v) = %d; want %d", p.Classes, int(got), int(want))
			}
			for _, r := range p.Rules {
				if got, want := Rule(p.Classes, r), ruleErr(p.Classes, r); got != want {
					t.Fatalf("Rule(%+v, %+v) = %d; want %d", p.Classes, r, int(got), int(want))
				}
			}
		}, p)
		met[Program(p)]++
	}
	for _, err := range []api.Errno{api.OK, api.ErrThere, api.ErrKind, api.ErrClass, api.ErrAttr, api.ErrVar, api.ErrRange} {
		if met[err] < 100 {
			t.Errorf("%d is drawn %d times", int(err), met[err])
		}
	}
}

// P17.1, P17.3 and P17.4, and rules 1 and 3: the same of the calls that are
// asked for parts.
func TestDrawnParts(t *testing.T) {
	met := map[api.Errno]int{}
	for i := range 20000 {
		d := drawer{rand.New(rand.NewSource(int64(i))), []int{2, 5, 20}[i%3]}
		l, bound := d.classes(), some(d, 0, 3, d.any)
		k := &known{drawer: d, classes: l, vars: slices.Clone(bound)}
		c, x, name := k.cond(), k.expr(), d.any()
		kept(t, func() {
			got, err := Cond(l, c, bound)
			want, wantErr := condBound(l, c, bound)
			if !slices.Equal(got, want) || err != wantErr {
				t.Fatalf("Cond(%+v, %+v, %q) = %q, %d; want %q, %d", l, c, bound, got, int(err), want, int(wantErr))
			}
			met[err]++
			if got, want := Expr(x, bound), exprErr(x, bound); got != want {
				t.Fatalf("Expr(%+v, %q) = %d; want %d", x, bound, int(got), int(want))
			}
			class, ok := Find(l, name)
			wantClass, wantOK := firstClass(l, name)
			if class.Name != wantClass.Name || !slices.Equal(class.Attrs, wantClass.Attrs) || ok != wantOK {
				t.Fatalf("Find(%+v, %q) = %+v, %v", l, name, class, ok)
			}
			at, ok := Attr(class, "q")
			if wantAt, wantOK := firstAttr(class, "q"); at != wantAt || ok != wantOK {
				t.Fatalf("Attr(%+v, q) = %d, %v", class, at, ok)
			}
		}, l, c, x, bound)
	}
	for _, err := range []api.Errno{api.OK, api.ErrThere, api.ErrClass, api.ErrAttr, api.ErrVar} {
		if met[err] < 100 {
			t.Errorf("%d is drawn %d times", int(err), met[err])
		}
	}
}

// Rule 1: no call panics, whatever the kinds, the numbers and the names are.
func TestWild(t *testing.T) {
	d := drawer{rand.New(rand.NewSource(176)), 1}
	byte := func() uint8 { return []uint8{0, 1, 2, 3, 4, 5, 6, uint8(d.Intn(256))}[d.Intn(8)] }
	n := func() int {
		return []int{0, 1, 2, 3, -1, -1 << 63, 1<<63 - 1, 1 << 32}[d.Intn(8)]
	}
	test := func() api.Test {
		return api.Test{Pred: byte(), Var: d.any(), Val: api.Value{Kind: byte(), N: n(), S: d.any()}}
	}
	attr := func() api.AttrTest {
		return api.AttrTest{Attr: d.any(), Tests: some(d, 0, 3, test)}
	}
	cond := func() api.Cond {
		return api.Cond{Neg: d.Intn(3) == 0, Class: d.any(), Attrs: some(d, 0, 2, attr)}
	}
	item := func() api.Item { return api.Item{Kind: byte(), Var: d.any()} }
	expr := func() []api.Item { return some(d, 0, 3, item) }
	set := func() api.Set { return api.Set{Attr: d.any(), Expr: expr()} }
	act := func() api.Act {
		return api.Act{Kind: byte(), Class: d.any(), N: n(), Var: d.any(), Sets: some(d, 0, 2, set), Exprs: some(d, 0, 2, expr)}
	}
	class := func() api.Class { return classOf(d.any(), some(d, 0, 5, d.any)...) }
	for range 20000 {
		l := some(d, 0, 5, class)
		r := api.Rule{Name: d.any(), Conds: some(d, 0, 3, cond), Acts: some(d, 0, 3, act)}
		kept(t, func() {
			if got, want := Rule(l, r), ruleErr(l, r); got != want {
				t.Fatalf("Rule(%+v, %+v) = %d; want %d", l, r, int(got), int(want))
			}
			p := api.Program{Classes: l, Rules: []api.Rule{r, r}}
			if got, want := Program(p), programErr(p); got != want {
				t.Fatalf("Program(%+v) = %d; want %d", p, int(got), int(want))
			}
		}, l, r)
	}
}
