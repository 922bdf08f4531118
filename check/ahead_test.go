package check

import (
	"fmt"
	"math/rand"
	"strconv"
	"testing"

	"intarsia/api"
)

// place is where a variable stands in a rule: what it is of there, and which
// part of the rule it belongs to.
type place struct {
	name  *string
	binds bool // a test by Is, or a Bind
	neg   int  // 0, or the number of the negated condition that it stands in
}

// places are all variables of a rule, in their order: a Bind's own stands behind
// its expressions.
func places(r api.Rule) []place {
	var l []place
	for i, c := range r.Conds {
		neg := 0
		if c.Neg {
			neg = i + 1
		}
		for _, a := range c.Attrs {
			for k := range a.Tests {
				if x := &a.Tests[k]; x.Var != "" {
					l = append(l, place{&x.Var, x.Pred == 0, neg})
				}
			}
		}
	}
	for i := range r.Acts {
		a := &r.Acts[i]
		for _, s := range a.Sets {
			l = append(l, told(s.Expr)...)
		}
		for _, x := range a.Exprs {
			l = append(l, told(x)...)
		}
		if a.Kind == 3 {
			l = append(l, place{&a.Var, true, 0})
		}
	}
	return l
}

func told(x []api.Item) []place {
	var l []place
	for i := range x {
		if x[i].Kind == 1 {
			l = append(l, place{&x[i].Var, false, 0})
		}
	}
	return l
}

// boundAhead tells whether a place that binds stands ahead, in no negated
// condition, or in the same one.
func boundAhead(l []place, at int) bool {
	for _, p := range l[:at] {
		if p.binds && *p.name == *l[at].name && (p.neg == 0 || p.neg == l[at].neg) {
			return true
		}
	}
	return false
}

// P17.6: in drawn programs that may be each variable that is asked, or told, was
// bound ahead. With another name in its place, which none has bound, the program
// may not be; and it may be again with the name that it had.
func TestBoundAhead(t *testing.T) {
	programs, asked := 0, 0
	for i := range 20000 {
		d := drawer{rand.New(rand.NewSource(int64(i))), []int{0, 15, 40}[i%3]}
		p := d.program()
		if Program(p) != api.OK {
			continue
		}
		programs++
		for _, r := range p.Rules {
			l := places(r)
			for at, x := range l {
				if x.binds {
					continue
				}
				asked++
				if !boundAhead(l, at) {
					t.Fatalf("%+v: <%s>, the variable at place %d, was not bound ahead", r, *x.name, at)
				}
				was := *x.name
				*x.name = "none has bound it"
				wantErr(t, "Program", Program(p), programErr(p), api.ErrVar, p)
				*x.name = was
			}
		}
		if Program(p) != api.OK || t.Failed() {
			t.Fatalf("%+v: %d", p, int(Program(p)))
		}
	}
	if programs < 5000 || asked < 10000 {
		t.Errorf("%d programs may be, which ask %d times", programs, asked)
	}
}

// P17.6: without what bound a variable ahead, the program may not be, or the
// variable is still bound ahead of each place where it is asked.
func TestUnbound(t *testing.T) {
	met := map[api.Errno]int{}
	for i := range 10000 {
		p := drawer{rand.New(rand.NewSource(int64(i))), 0}.program()
		for _, r := range p.Rules {
			l := places(r)
			for n, x := range l {
				if !x.binds {
					continue
				}
				was := *x.name
				*x.name = "other" + strconv.Itoa(n)
				want := api.OK
				for at, x := range l {
					if !x.binds && !boundAhead(l, at) {
						want = api.ErrVar
					}
				}
				wantErr(t, "Program", Program(p), programErr(p), want, p)
				*x.name = was
				met[want]++
			}
		}
		if Program(p) != api.OK || t.Failed() {
			t.Fatalf("%+v: %d", p, int(Program(p)))
		}
	}
	if met[api.OK] < 1000 || met[api.ErrVar] < 1000 {
		t.Errorf("%v", met)
	}
}

// Rule 1: programs of many names are gone through soon, as each name is met once.
func TestMany(t *testing.T) {
	const many = 100000
	name := func(i int) string { return fmt.Sprintf("n%06d", i) }
	var p api.Program
	var r api.Rule
	wide := condOf("wide")
	made := api.Act{Class: "wide"}
	var attrs []string
	for i := range many {
		p.Classes = append(p.Classes, classOf(name(i), "p"))
		p.Rules = append(p.Rules, api.Rule{Name: name(i), Conds: []api.Cond{condOf(name(many - 1 - i))}})
		r.Conds = append(r.Conds, condOf(name(i), tests("p", ofVar(0, name(i)))), negated(condOf(name(i), tests("p", ofVar(4, name(i)), ofVar(0, "x")))))
		attrs = append(attrs, name(i))
		wide.Attrs = append(wide.Attrs, tests(name(i), ofVar(0, "wide"+name(i))))
		made.Sets = append(made.Sets, setOf(name(i), variable("wide"+name(i))))
		r.Acts = append(r.Acts, api.Act{Kind: 3, Var: "v" + name(i), Exprs: exprs(items(variable(name(i))))})
	}
	p.Classes = append(p.Classes, classOf("wide", attrs...))
	r.Conds = append(r.Conds, wide)
	r.Acts = append(r.Acts, made)
	p.Rules = append(p.Rules, r)
	if err := Program(p); err != api.OK {
		t.Errorf("%d", int(err))
	}
	if l, err := Cond(p.Classes, wide, attrs); len(l) != 2*many || err != api.OK || l[many-1] != name(many-1) || l[many] != "wide"+name(0) {
		t.Errorf("%d, %d", len(l), int(err))
	}
	if err := Expr(items(variable(attrs[many-1]), variable("x")), attrs); err != api.ErrVar {
		t.Errorf("%d", int(err))
	}
	made.Sets[many-1].Expr[0].Var = "x"
	if err := Program(p); err != api.ErrVar {
		t.Errorf("%d", int(err))
	}
	p.Classes[many].Attrs[many-1] = name(0)
	if err := Program(p); err != api.ErrThere {
		t.Errorf("%d", int(err))
	}
}
