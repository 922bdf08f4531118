package test

import (
	"fmt"
	"math"
	"reflect"
	"slices"
	"strconv"
	"testing"

	"intarsia/api"
	"intarsia/parse"
)

const mostTag = 1 << 40 // the greatest tag that may be

// Short forms of what is handed in.
func classIs(name string, attrs ...string) api.Class { return api.Class{Name: name, Attrs: attrs} }
func classes(l ...api.Class) []api.Class             { return l }
func fact(tag int, name string, l ...api.Value) api.Fact {
	return api.Fact{Tag: tag, Class: name, Vals: l}
}
func vals(l ...api.Value) []api.Value                { return l }
func number(n int) api.Value                         { return api.Value{Kind: 1, N: n} }
func symbol(s string) api.Value                      { return api.Value{Kind: 2, S: s} }
func is(name string, v api.Value) api.Bound          { return api.Bound{Name: name, Val: v} }
func binds(l ...api.Bound) []api.Bound               { return l }
func names(l ...string) []string                     { return l }
func by(pred uint8, v api.Value) api.Test            { return api.Test{Pred: pred, Val: v} }
func like(pred uint8, name string) api.Test          { return api.Test{Pred: pred, Var: name} }
func tests(l ...api.Test) []api.Test                 { return l }
func condOf(name string, l ...api.AttrTest) api.Cond { return api.Cond{Class: name, Attrs: l} }
func asks(name string, l ...api.Test) api.AttrTest {
	return api.AttrTest{Attr: name, Tests: l}
}
func asksOne(name string, ones []api.Value, l ...api.Test) api.AttrTest {
	return api.AttrTest{Attr: name, Ones: ones, Tests: l}
}

var none = api.Value{}

// three are c, with p, q and r, d, with the same ones, and e, without attributes.
func three() []api.Class {
	return classes(classIs("c", "p", "q", "r"), classIs("d", "p", "q", "r"), classIs("e"))
}

// one is a c with p 1, q a and r 3.
func one() api.Fact { return fact(7, "c", number(1), symbol("a"), number(3)) }

// read reads a condition's text.
func read(text string) api.Cond {
	p, err := parse.Parse("(p r " + text + " -->)")
	if err != api.OK {
		panic(text)
	}
	return p.Rules[0].Conds[0]
}

// wrongValues are values that may not be, rightValues are such as may be.
func wrongValues() []api.Value {
	return vals(api.Value{Kind: 3}, api.Value{Kind: 255, N: 1, S: "a"}, api.Value{N: 1}, api.Value{S: "a"}, api.Value{Kind: 1, S: "a"}, api.Value{Kind: 1, N: 1, S: "b"},
		api.Value{Kind: 2, N: 1, S: "a"}, number(mostTag+1), number(-mostTag-1), number(math.MinInt), symbol(""), symbol("nil"), symbol("1"), symbol("a b"), symbol("\xff"))
}

func rightValues() []api.Value {
	return vals(none, number(0), number(1), number(2), number(-1), number(mostTag), number(-mostTag), symbol("a"), symbol("b"), symbol("-"), symbol("é"))
}

// kept asks that a call leaves what it is given as it is, the spare room, too.
func kept(t *testing.T, call func(), given ...any) {
	t.Helper()
	was := spelledAll(given)
	call()
	if is := spelledAll(given); is != was {
		t.Fatalf("changed: %.600s; it was %.600s", is, was)
	}
}

// roomy lays a list into more room than it needs, with something in it.
func roomy[T any](l []T, more T) []T {
	return append(append(make([]T, 0, len(l)+2), l...), more, more)[:len(l)]
}

// roomyCond lays all lists of a condition into more room than they need, with
// something in it that would ask for more.
func roomyCond(c api.Cond) api.Cond {
	l := make([]api.AttrTest, 0, len(c.Attrs))
	for _, a := range c.Attrs {
		l = append(l, asksOne(a.Attr, roomy(a.Ones, symbol("spare")), roomy(a.Tests, by(9, none))...))
	}
	c.Attrs = roomy(l, asks("spare", by(9, none)))
	return c
}

// negated tells a condition with the other Neg.
func negated(c api.Cond) api.Cond {
	c.Neg = !c.Neg
	return c
}

// wantMatch asks that a fact is as a condition asks, that just this is bound then,
// and that it passes, negated or not.
func wantMatch(t *testing.T, l []api.Class, c api.Cond, f api.Fact, bound, want []api.Bound) {
	t.Helper()
	for _, c := range []api.Cond{c, negated(c)} {
		c, l, bound := roomyCond(c), roomy(l, classIs("spare", "p")), roomy(bound, is("x", symbol("spare")))
		f.Vals = roomy(f.Vals, number(9))
		kept(t, func() {
			if got, ok := Match(l, c, f, bound); !ok || !alike(got, want) {
				t.Errorf("Match(%s, %s, %s, %s) = %s, %v; want %s", short(l), short(c), short(f), short(bound), short(got), ok, short(want))
			}
			if own, ok := ownMatch(l, c, f, bound); !ok || !alike(own, want) {
				t.Errorf("Match(%s, %s, %s, %s): the test's own telling is %s, %v; want %s", short(l), short(c), short(f), short(bound), short(own), ok, short(want))
			}
		}, l, c, f, bound)
		wantPasses(t, l, c, f, true)
	}
}

// wantNotMatch asks that a fact is not as a condition asks, and that nothing is bound
// then, negated or not.
func wantNotMatch(t *testing.T, l []api.Class, c api.Cond, f api.Fact, bound []api.Bound) {
	t.Helper()
	for _, c := range []api.Cond{c, negated(c)} {
		c, l, bound := roomyCond(c), roomy(l, classIs("spare", "p")), roomy(bound, is("x", symbol("spare")))
		f.Vals = roomy(f.Vals, number(9))
		kept(t, func() {
			if got, ok := Match(l, c, f, bound); ok || len(got) > 0 {
				t.Errorf("Match(%s, %s, %s, %s) = %s, %v; want nothing, false", short(l), short(c), short(f), short(bound), short(got), ok)
			}
			if own, ok := ownMatch(l, c, f, bound); ok {
				t.Errorf("Match(%s, %s, %s, %s): the test's own telling is %s, true; want false", short(l), short(c), short(f), short(bound), short(own))
			}
		}, l, c, f, bound)
	}
}

// wantRefused asks that a fact is not as a condition without variables asks, and that
// it does not pass.
func wantRefused(t *testing.T, l []api.Class, c api.Cond, f api.Fact) {
	t.Helper()
	for _, b := range [][]api.Bound{nil, {is("x", number(1))}} {
		wantNotMatch(t, l, c, f, b)
	}
	wantPasses(t, l, c, f, false)
	wantPasses(t, l, negated(c), f, false)
}

func wantPasses(t *testing.T, l []api.Class, c api.Cond, f api.Fact, want bool) {
	t.Helper()
	kept(t, func() {
		if got := Passes(l, c, f); got != want {
			t.Errorf("Passes(%s, %s, %s) = %v; want %v", short(l), short(c), short(f), got, want)
		}
		if own := ownPasses(l, c, f); own != want {
			t.Errorf("Passes(%s, %s, %s): the test's own telling is %v; want %v", short(l), short(c), short(f), own, want)
		}
		if _, ok := Match(l, Consts(c), f, nil); ok != want {
			t.Errorf("Match(%s, Consts(%s), %s, nothing) = %v; want %v", short(l), short(c), short(f), ok, want)
		}
	}, l, c, f)
}

func wantConsts(t *testing.T, c, want api.Cond) {
	t.Helper()
	c = roomyCond(c)
	kept(t, func() {
		if got := Consts(c); !sameCond(got, want) {
			t.Errorf("Consts(%s) = %s; want %s", short(c), short(got), short(want))
		}
		if got := Consts(negated(c)); !sameCond(got, want) {
			t.Errorf("Consts(%s) = %s; want %s", short(negated(c)), short(got), short(want))
		}
		if own := ownConsts(c); !sameCond(own, want) {
			t.Errorf("Consts(%s): the test's own telling is %s; want %s", short(c), short(own), short(want))
		}
		if got := Consts(want); !sameCond(got, want) {
			t.Errorf("Consts(%s) = %s; it has no variables", short(want), short(got))
		}
	}, c, want)
}

func wantVars(t *testing.T, c api.Cond, want ...string) {
	t.Helper()
	for _, c := range []api.Cond{roomyCond(c), roomyCond(negated(c))} {
		kept(t, func() {
			if got := Vars(c); !slices.Equal(got, want) {
				t.Errorf("Vars(%s) = %q; want %q", short(c), got, want)
			}
			if own := ownVars(c); !slices.Equal(own, want) {
				t.Errorf("Vars(%s): the test's own telling is %q; want %q", short(c), own, want)
			}
		}, c)
	}
}

func wantTests(t *testing.T, c api.Cond, want int) {
	t.Helper()
	for _, c := range []api.Cond{roomyCond(c), roomyCond(negated(c))} {
		kept(t, func() {
			if got := Tests(c); got != want {
				t.Errorf("Tests(%s) = %d; want %d", short(c), got, want)
			}
			if own := ownTests(c); own != want {
				t.Errorf("Tests(%s): the test's own telling is %d; want %d", short(c), own, want)
			}
		}, c)
	}
}

func wantLookup(t *testing.T, l []api.Bound, name string, want api.Value, there bool) {
	t.Helper()
	l = roomy(l, is(name, symbol("spare")))
	kept(t, func() {
		if got, ok := Lookup(l, name); got != want || ok != there {
			t.Errorf("Lookup(%s, %q) = %+v, %v; want %+v, %v", short(l), name, got, ok, want, there)
		}
		if own, ok := ownLookup(l, name); own != want || ok != there {
			t.Errorf("Lookup(%s, %q): the test's own telling is %+v, %v; want %+v, %v", short(l), name, own, ok, want, there)
		}
	}, l)
}

func wantSame(t *testing.T, a, b []api.Bound, want bool) {
	t.Helper()
	a, b = roomy(a, is("x", number(1))), roomy(b, is("x", number(2)))
	kept(t, func() {
		if Same(a, b) != want || Same(b, a) != want {
			t.Errorf("Same(%s, %s) = %v, and the other way round %v; want %v", short(a), short(b), Same(a, b), Same(b, a), want)
		}
		if alike(a, b) != want {
			t.Errorf("Same(%s, %s): the test's own telling is not %v", short(a), short(b), want)
		}
	}, a, b)
}

// spelledAll tells all that some things have, their lists' spare room, too.
func spelledAll(l []any) string {
	var b []byte
	for _, x := range l {
		b = append(spelled(b, reflect.ValueOf(x)), '\n')
	}
	return string(b)
}

func spelled(b []byte, v reflect.Value) []byte {
	switch v.Kind() {
	case reflect.Slice:
		b = strconv.AppendInt(b, int64(v.Len()), 10)
		b = append(b, '/')
		b = strconv.AppendInt(b, int64(v.Cap()), 10)
		all := v.Slice(0, v.Cap())
		for i := range v.Cap() {
			b = append(spelled(append(b, '['), all.Index(i)), ']')
		}
	case reflect.Struct:
		for i := range v.NumField() {
			b = append(spelled(append(b, '{'), v.Field(i)), '}')
		}
	case reflect.String:
		b = strconv.AppendQuote(b, v.String())
	case reflect.Int:
		b = strconv.AppendInt(b, v.Int(), 10)
	case reflect.Bool:
		b = strconv.AppendBool(b, v.Bool())
	default:
		b = strconv.AppendUint(b, v.Uint(), 10)
	}
	return b
}

// short tells the beginning of a thing.
func short(x any) string { return fmt.Sprintf("%.400s", fmt.Sprintf("%+v", x)) }
