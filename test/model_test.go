package test

import (
	"intarsia/api"
	"intarsia/value"
)

// The chapter's words, written apart from the program: a condition is first laid out
// as steps, each of one value, which are then gone over one behind the other, with
// what is bound in a map.

// step is one thing that is asked of a value: to be one of some, or a test.
type step struct {
	val  api.Value
	ones []api.Value
	test api.Test
}

func ownLookup(l []api.Bound, name string) (api.Value, bool) {
	at := map[string]int{}
	for i := len(l) - 1; i >= 0; i-- {
		at[l[i].Name] = i
	}
	i, ok := at[name]
	if !ok {
		return api.Value{}, false
	}
	return l[i].Val, true
}

// ownClass tells the class of a fact that may be, and its attributes' values by their
// first places.
func ownClass(l []api.Class, f api.Fact) (map[string]api.Value, bool) {
	var c *api.Class
	for i := range l {
		if l[len(l)-1-i].Name == f.Class {
			c = &l[len(l)-1-i]
		}
	}
	if c == nil || f.Tag < 1 || f.Tag > mostTag || len(f.Vals) != len(c.Attrs) {
		return nil, false
	}
	got := map[string]api.Value{}
	for i := len(f.Vals) - 1; i >= 0; i-- {
		if value.Check(f.Vals[i]) != 0 {
			return nil, false
		}
		got[c.Attrs[i]] = f.Vals[i]
	}
	return got, true
}

// steps lays a condition out; false, if it asks for an attribute that is not there.
func steps(got map[string]api.Value, c api.Cond) ([]step, bool) {
	var l []step
	for _, a := range c.Attrs {
		v, ok := got[a.Attr]
		if !ok {
			return nil, false
		}
		if len(a.Ones) > 0 {
			l = append(l, step{val: v, ones: a.Ones})
		}
		for _, x := range a.Tests {
			l = append(l, step{val: v, test: x})
		}
	}
	return l, true
}

func same(v, w api.Value) bool { return v.Kind == w.Kind && v.N == w.N && v.S == w.S }

func ownHolds(pred uint8, v, w api.Value) bool {
	numbers := v.Kind == 1 && w.Kind == 1
	sign := 0
	if v.N < w.N {
		sign = -1
	} else if v.N > w.N {
		sign = 1
	}
	switch {
	case pred < 2:
		return same(v, w) == (pred == 0)
	case !numbers || pred > 5:
		return false
	}
	return [4]bool{sign == -1, sign != 1, sign == 1, sign != -1}[pred-2]
}

func ownMatch(l []api.Class, c api.Cond, f api.Fact, bound []api.Bound) ([]api.Bound, bool) {
	got, ok := ownClass(l, f)
	if !ok || c.Class != f.Class {
		return nil, false
	}
	todo, ok := steps(got, c)
	if !ok {
		return nil, false
	}
	env := map[string]api.Value{}
	for i := len(bound) - 1; i >= 0; i-- {
		env[bound[i].Name] = bound[i].Val
	}
	all := append([]api.Bound{}, bound...)
	for _, s := range todo {
		ok := false
		other, isBound := env[s.test.Var]
		switch {
		case len(s.ones) > 0:
			for _, w := range s.ones {
				ok = ok || same(s.val, w)
			}
		case s.test.Var == "":
			ok = ownHolds(s.test.Pred, s.val, s.test.Val)
		case isBound:
			ok = ownHolds(s.test.Pred, s.val, other)
		case s.test.Pred == 0:
			env[s.test.Var], ok = s.val, true
			all = append(all, api.Bound{Name: s.test.Var, Val: s.val})
		}
		if !ok {
			return nil, false
		}
	}
	return all, true
}

func ownConsts(c api.Cond) api.Cond {
	k := api.Cond{Class: c.Class}
	for _, a := range c.Attrs {
		b := api.AttrTest{Attr: a.Attr}
		b.Ones = append(b.Ones, a.Ones...)
		for _, x := range a.Tests {
			if len(x.Var) == 0 {
				b.Tests = append(b.Tests, x)
			}
		}
		if len(b.Ones)+len(b.Tests) != 0 {
			k.Attrs = append(k.Attrs, b)
		}
	}
	return k
}

// ownPasses asks the tests without a Var alone, so that nothing is ever bound.
func ownPasses(l []api.Class, c api.Cond, f api.Fact) bool {
	got, ok := ownClass(l, f)
	if !ok || f.Class != c.Class {
		return false
	}
	for _, a := range c.Attrs {
		v, there := got[a.Attr]
		is := len(a.Ones) == 0
		for _, w := range a.Ones {
			is = is || same(v, w)
		}
		asked := len(a.Ones)
		for _, x := range a.Tests {
			if x.Var == "" {
				asked++
				is = is && ownHolds(x.Pred, v, x.Val)
			}
		}
		if asked > 0 && (!there || !is) {
			return false
		}
	}
	return true
}

func ownVars(c api.Cond) []string {
	var l []string
	for i := len(c.Attrs) - 1; i >= 0; i-- {
		for k := len(c.Attrs[i].Tests) - 1; k >= 0; k-- {
			name := c.Attrs[i].Tests[k].Var
			if name == "" {
				continue
			}
			m := []string{name}
			for _, other := range l {
				if other != name {
					m = append(m, other)
				}
			}
			l = m
		}
	}
	return l
}

func ownTests(c api.Cond) int {
	n := 1
	for _, a := range c.Attrs {
		for range a.Tests {
			n++
		}
		for range a.Ones {
			n++
			break
		}
	}
	return n
}

// alike tells whether what is bound is the same in all fields.
func alike(a, b []api.Bound) bool {
	if len(a) != len(b) {
		return false
	}
	for i := range a {
		if a[i].Name != b[i].Name || !same(a[i].Val, b[i].Val) {
			return false
		}
	}
	return true
}

// sameCond tells whether two conditions are the same in all fields.
func sameCond(c, d api.Cond) bool {
	if c.Neg != d.Neg || c.Class != d.Class || len(c.Attrs) != len(d.Attrs) {
		return false
	}
	for i, a := range c.Attrs {
		b := d.Attrs[i]
		if a.Attr != b.Attr || len(a.Ones) != len(b.Ones) || len(a.Tests) != len(b.Tests) {
			return false
		}
		for k, v := range a.Ones {
			if !same(v, b.Ones[k]) {
				return false
			}
		}
		for k, x := range a.Tests {
			y := b.Tests[k]
			if x.Pred != y.Pred || x.Var != y.Var || !same(x.Val, y.Val) {
				return false
			}
		}
	}
	return true
}
