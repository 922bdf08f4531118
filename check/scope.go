package check

import (
	"intarsia/api"
	"intarsia/value"
)

// scope is what the parts of a rule are asked against: the classes' attributes,
// and the variables that are bound so far.
type scope struct {
	attrs map[string]names
	bound names
}

func rule(attrs map[string]names, r api.Rule) api.Errno {
	if len(r.Conds) == 0 || r.Conds[0].Neg {
		return api.ErrKind
	}
	s := scope{attrs: attrs, bound: names{}}
	for _, c := range r.Conds {
		if _, err := s.cond(c); err != api.OK {
			return err
		}
	}
	for _, a := range r.Acts {
		if err := s.act(a, r.Conds); err != api.OK {
			return err
		}
	}
	return api.OK
}

// cond binds what a condition binds, and tells these variables; of a negated one
// they are bound within it alone.
func (s scope) cond(c api.Cond) ([]string, api.Errno) {
	attrs, ok := s.attrs[c.Class]
	if !ok {
		return nil, api.ErrClass
	}
	var fresh []string
	met := names{}
	for _, a := range c.Attrs {
		if err := once(attrs, met, a.Attr); err != api.OK {
			return nil, err
		}
		l, err := s.tests(a.Tests)
		if err != api.OK {
			return nil, err
		}
		fresh = append(fresh, l...)
	}
	if !c.Neg {
		return fresh, api.OK
	}
	for _, name := range fresh {
		delete(s.bound, name)
	}
	return nil, api.OK
}

// once asks that a class has an attribute, and that it was not met.
func once(attrs, met names, name string) api.Errno {
	if !attrs.has(name) {
		return api.ErrAttr
	}
	if !met.add(name) {
		return api.ErrThere
	}
	return api.OK
}

// tests binds what an attribute's tests bind, and tells these variables.
func (s scope) tests(l []api.Test) ([]string, api.Errno) {
	var fresh []string
	for _, t := range l {
		if t.Var == "" || s.bound.has(t.Var) {
			continue
		}
		if t.Pred != value.Is {
			return nil, api.ErrVar
		}
		s.bound.add(t.Var)
		fresh = append(fresh, t.Var)
	}
	return fresh, api.OK
}

// act asks an act of any kind for its sets and its expressions, also one of a
// kind that has none in a program's text.
func (s scope) act(a api.Act, conds []api.Cond) api.Errno {
	class, err := s.class(a, conds)
	if err != api.OK {
		return err
	}
	if err := s.sets(s.attrs[class], a.Sets); err != api.OK {
		return err
	}
	for _, x := range a.Exprs {
		if err := s.expr(x); err != api.OK {
			return err
		}
	}
	if a.Kind == api.Bind {
		s.bound.add(a.Var)
	}
	return api.OK
}

// class tells whose attributes an act sets: those of the class that it names, or
// of the condition that it modifies.
func (s scope) class(a api.Act, conds []api.Cond) (string, api.Errno) {
	switch a.Kind {
	case api.Make:
		if _, ok := s.attrs[a.Class]; !ok {
			return "", api.ErrClass
		}
	case api.Modify, api.Remove:
		if a.N < 1 || a.N > len(conds) || conds[a.N-1].Neg {
			return "", api.ErrRange
		}
	}
	if a.Kind == api.Modify {
		return conds[a.N-1].Class, api.OK
	}
	return a.Class, api.OK
}

func (s scope) sets(attrs names, l []api.Set) api.Errno {
	met := names{}
	for _, x := range l {
		if err := once(attrs, met, x.Attr); err != api.OK {
			return err
		}
		if err := s.expr(x.Expr); err != api.OK {
			return err
		}
	}
	return api.OK
}

func (s scope) expr(l []api.Item) api.Errno {
	for _, x := range l {
		if x.Kind == api.Variable && !s.bound.has(x.Var) {
			return api.ErrVar
		}
	}
	return api.OK
}
