package check

import (
	"slices"

	"intarsia/api"
)

// The chapter's words, written apart from the program: each name is looked for
// in what stands ahead, one by one.

func firstClass(l []api.Class, name string) (api.Class, bool) {
	for _, c := range l {
		if c.Name == name {
			return c, true
		}
	}
	return api.Class{}, false
}

func firstAttr(c api.Class, name string) (int, bool) {
	for i, a := range c.Attrs {
		if a == name {
			return i, true
		}
	}
	return 0, false
}

func classesErr(l []api.Class) api.Errno {
	for i, c := range l {
		if _, ok := firstClass(l[:i], c.Name); ok {
			return api.ErrThere
		}
		for k, a := range c.Attrs {
			if slices.Contains(c.Attrs[:k], a) {
				return api.ErrThere
			}
		}
	}
	return api.OK
}

func condBound(l []api.Class, c api.Cond, handed []string) ([]string, api.Errno) {
	class, ok := firstClass(l, c.Class)
	if !ok {
		return nil, api.ErrClass
	}
	bound := append([]string(nil), handed...)
	for i, a := range c.Attrs {
		if !slices.Contains(class.Attrs, a.Attr) {
			return nil, api.ErrAttr
		}
		for _, b := range c.Attrs[:i] {
			if b.Attr == a.Attr {
				return nil, api.ErrThere
			}
		}
		for _, t := range a.Tests {
			if is := slices.Contains(bound, t.Var); t.Var != "" && !is && t.Pred == 0 {
				bound = append(bound, t.Var)
			} else if t.Var != "" && !is {
				return nil, api.ErrVar
			}
		}
	}
	if c.Neg {
		return handed, api.OK
	}
	return bound, api.OK
}

func exprErr(l []api.Item, bound []string) api.Errno {
	for _, x := range l {
		if x.Kind == 1 && !slices.Contains(bound, x.Var) {
			return api.ErrVar
		}
	}
	return api.OK
}

func setsErr(class api.Class, l []api.Set, bound []string) api.Errno {
	for i, s := range l {
		if !slices.Contains(class.Attrs, s.Attr) {
			return api.ErrAttr
		}
		for _, b := range l[:i] {
			if b.Attr == s.Attr {
				return api.ErrThere
			}
		}
		if e := exprErr(s.Expr, bound); e != 0 {
			return e
		}
	}
	return api.OK
}

func actErr(l []api.Class, conds []api.Cond, a api.Act, bound []string) api.Errno {
	class, ok := firstClass(l, a.Class)
	if a.Kind == 0 && !ok {
		return api.ErrClass
	}
	if a.Kind == 1 || a.Kind == 2 {
		if a.N < 1 || a.N > len(conds) || conds[a.N-1].Neg {
			return api.ErrRange
		}
	}
	if a.Kind == 1 {
		class, _ = firstClass(l, conds[a.N-1].Class)
	}
	if e := setsErr(class, a.Sets, bound); e != 0 {
		return e
	}
	for _, x := range a.Exprs {
		if e := exprErr(x, bound); e != 0 {
			return e
		}
	}
	return api.OK
}

func ruleErr(l []api.Class, r api.Rule) api.Errno {
	if len(r.Conds) == 0 || r.Conds[0].Neg {
		return api.ErrKind
	}
	var bound []string
	for _, c := range r.Conds {
		b, e := condBound(l, c, bound)
		if e != 0 {
			return e
		}
		bound = b
	}
	for _, a := range r.Acts {
		if e := actErr(l, r.Conds, a, bound); e != 0 {
			return e
		}
		if a.Kind == 3 {
			bound = append(slices.Clone(bound), a.Var)
		}
	}
	return api.OK
}

func programErr(p api.Program) api.Errno {
	if e := classesErr(p.Classes); e != 0 {
		return e
	}
	for i, r := range p.Rules {
		for _, b := range p.Rules[:i] {
			if b.Name == r.Name {
				return api.ErrThere
			}
		}
		if e := ruleErr(p.Classes, r); e != 0 {
			return e
		}
	}
	return api.OK
}
