package class

import (
	"fmt"
	"strings"

	"intarsia/api"
	"intarsia/value"
)

// The chapter's words, written apart from the program: what is set is gathered by
// names first, and each attribute then looks there for its value.

func firstClass(l []api.Class, name string) (api.Class, bool) {
	for _, c := range l {
		if c.Name == name {
			return c, true
		}
	}
	return api.Class{}, false
}

// firsts are the first places of a class' attributes.
func firsts(c api.Class) map[string]int {
	at := map[string]int{}
	for i := len(c.Attrs) - 1; i >= 0; i-- {
		at[c.Attrs[i]] = i
	}
	return at
}

func ownCheck(l []api.Class, f api.Fact) api.Errno {
	if f.Tag <= 0 || f.Tag > mostTag {
		return 22
	}
	c, ok := firstClass(l, f.Class)
	if !ok {
		return 18
	}
	if len(c.Attrs) != len(f.Vals) {
		return 4
	}
	var wrong []api.Errno
	for _, v := range f.Vals {
		if e := value.Check(v); e != 0 {
			wrong = append(wrong, e)
		}
	}
	if len(wrong) > 0 {
		return wrong[0]
	}
	return 0
}

// setsErr tells what is wrong in sets of a class' attributes.
func setsErr(c api.Class, l []api.Bound) api.Errno {
	at, met := firsts(c), map[string]int{}
	for _, s := range l {
		if _, ok := at[s.Name]; !ok {
			return 19
		}
		met[s.Name]++
		if met[s.Name] == 2 {
			return 7
		}
		if e := value.Check(s.Val); e != 0 {
			return e
		}
	}
	return 0
}

func ownWith(l []api.Class, f api.Fact, tag int, sets []api.Bound) (api.Fact, api.Errno) {
	if e := ownCheck(l, f); e != 0 {
		return api.Fact{}, e
	}
	if tag <= 0 || tag > mostTag {
		return api.Fact{}, 22
	}
	c, _ := firstClass(l, f.Class)
	if e := setsErr(c, sets); e != 0 {
		return api.Fact{}, e
	}
	told := map[string]api.Value{}
	for _, s := range sets {
		told[s.Name] = s.Val
	}
	g, at := api.Fact{Tag: tag, Class: f.Class}, firsts(c)
	for i, name := range c.Attrs {
		v, ok := told[name]
		if !ok || at[name] != i {
			v = f.Vals[i]
		}
		g.Vals = append(g.Vals, v)
	}
	return g, 0
}

func ownMake(l []api.Class, tag int, name string, sets []api.Bound) (api.Fact, api.Errno) {
	c, ok := firstClass(l, name)
	if !ok {
		return api.Fact{}, 18
	}
	f := api.Fact{Tag: 1, Class: name}
	for range c.Attrs {
		f.Vals = append(f.Vals, api.Value{})
	}
	return ownWith(l, f, tag, sets)
}

func ownGet(l []api.Class, f api.Fact, name string) (api.Value, bool) {
	if ownCheck(l, f) != 0 {
		return api.Value{}, false
	}
	c, _ := firstClass(l, f.Class)
	i, ok := firsts(c)[name]
	if !ok {
		return api.Value{}, false
	}
	return f.Vals[i], true
}

func ownText(l []api.Class, f api.Fact) string {
	if ownCheck(l, f) != 0 {
		return ""
	}
	c, _ := firstClass(l, f.Class)
	parts := []string{"(" + c.Name}
	for i, name := range c.Attrs {
		switch v := f.Vals[i]; v.Kind {
		case 1:
			parts = append(parts, fmt.Sprintf("^%s %d", name, v.N))
		case 2:
			parts = append(parts, fmt.Sprintf("^%s %s", name, v.S))
		}
	}
	return strings.Join(parts, " ") + ")"
}

// alike tells whether two facts are the same in all fields.
func alike(a, b api.Fact) bool {
	if a.Tag != b.Tag || a.Class != b.Class || len(a.Vals) != len(b.Vals) {
		return false
	}
	for i, v := range a.Vals {
		w := b.Vals[i]
		if v.Kind != w.Kind || v.N != w.N || v.S != w.S {
			return false
		}
	}
	return true
}
