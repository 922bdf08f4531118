package test

import (
	"math"
	"math/rand"
	"slices"
	"testing"

	"intarsia/api"
)

// drawer draws classes, facts, conditions and what is bound, that may be mostly, but
// for a slip now and then. It draws of few names and values, so that much holds.
type drawer struct {
	*rand.Rand
	slips int // of how many steps one slips; 0: none
}

func drawerOf(seed, slips int) drawer {
	return drawer{rand.New(rand.NewSource(int64(seed))), slips}
}

func (d drawer) slip() bool { return d.slips > 0 && d.Intn(d.slips) == 0 }

// part picks one of some parts.
func part[T any](d drawer, l ...T) T { return l[d.Intn(len(l))] }

// unlike draws some names, each once, but for slips.
func (d drawer) unlike(least, most int, of ...string) []string {
	l := slices.Clone(of)
	d.Shuffle(len(l), func(i, k int) { l[i], l[k] = l[k], l[i] })
	l = l[:min(len(l), least+d.Intn(most-least+1))]
	for i := range l {
		if d.slip() {
			l[i] = part(d, l[d.Intn(len(l))], "z", "")
		}
	}
	return l
}

func (d drawer) classes() []api.Class {
	var l []api.Class
	for _, name := range d.unlike(1, 3, "c", "d", "e", "") {
		l = append(l, classIs(name, d.unlike(0, 5, "p", "q", "r", "s", "")...))
	}
	return l
}

func (d drawer) value() api.Value {
	if d.slip() {
		return part(d, append(wrongValues(), rightValues()...)...)
	}
	return part(d, none, number(0), number(1), number(2), symbol("a"), symbol("b"), number(1), symbol("a"))
}

func (d drawer) fact(l []api.Class) api.Fact {
	f := api.Fact{Tag: 1 + d.Intn(mostTag)}
	if d.slip() {
		f.Tag = part(d, 0, -1, mostTag, mostTag+1, math.MaxInt, math.MinInt)
	}
	c := part(d, l...)
	f.Class = c.Name
	n := len(c.Attrs)
	if d.slip() {
		n = max(0, n+part(d, -1, 1))
	}
	for range n {
		f.Vals = append(f.Vals, d.value())
	}
	return f
}

// near draws a value that is mostly another one's.
func (d drawer) near(v api.Value) api.Value {
	if d.Intn(4) > 0 {
		return v
	}
	return d.value()
}

// test draws what a value is asked, mostly such as holds of it.
func (d drawer) test(v api.Value) api.Test {
	x := api.Test{Pred: uint8(d.Intn(6))}
	if d.slip() {
		x.Pred = part(d, 6, 7, uint8(d.Intn(256)))
	}
	if d.Intn(2) == 0 {
		x.Val = d.near(v)
		for n := 0; n < 4 && !ownHolds(x.Pred, v, x.Val); n++ {
			x.Pred = uint8(d.Intn(6))
		}
		return x
	}
	x.Var = part(d, "x", "y", "z", "v", "w")
	if d.Intn(3) > 0 {
		x.Pred = 0
	}
	if d.slip() {
		x.Val = d.value()
	}
	return x
}

// cond draws a condition for a fact of some class.
func (d drawer) cond(l []api.Class, f api.Fact) api.Cond {
	c := api.Cond{Neg: d.Intn(3) == 0, Class: f.Class}
	if d.slip() {
		c.Class = part(d, "c", "d", "e", "", "f")
	}
	k := part(d, l...)
	for _, other := range slices.Backward(l) {
		if other.Name == f.Class {
			k = other
		}
	}
	for range d.Intn(4) {
		if len(k.Attrs) > 0 {
			at := d.Intn(len(k.Attrs))
			v := none
			if at < len(f.Vals) {
				v = f.Vals[at]
			}
			c.Attrs = append(c.Attrs, d.attr(k.Attrs[at], v))
		}
	}
	return c
}

func (d drawer) attr(name string, v api.Value) api.AttrTest {
	a := api.AttrTest{Attr: name}
	if d.slip() {
		a.Attr = part(d, "p", "q", "z", "")
	}
	if d.Intn(4) == 0 {
		for range d.Intn(4) {
			a.Ones = append(a.Ones, d.near(v))
		}
	}
	for range d.Intn(4) {
		a.Tests = append(a.Tests, d.test(v))
	}
	return a
}

func (d drawer) bound() []api.Bound {
	var l []api.Bound
	for _, name := range d.unlike(0, 2, "x", "y", "z", "u") {
		l = append(l, is(name, d.value()))
	}
	return l
}

// wantLikeOwn asks all calls of what the chapter's words, told apart, say; and answers
// whether the fact matches.
func wantLikeOwn(t *testing.T, l []api.Class, c api.Cond, f api.Fact, bound []api.Bound) bool {
	t.Helper()
	want, ok := ownMatch(l, c, f, bound)
	if ok {
		wantMatch(t, l, c, f, bound, want)
	} else {
		wantNotMatch(t, l, c, f, bound)
	}
	wantPasses(t, l, c, f, ownPasses(l, c, f))
	wantConsts(t, c, ownConsts(c))
	wantVars(t, c, ownVars(c)...)
	wantTests(t, c, ownTests(c))
	for _, name := range append(ownVars(c), "", "u") {
		v, ok := ownLookup(bound, name)
		wantLookup(t, bound, name, v, ok)
		v, ok = ownLookup(want, name)
		wantLookup(t, want, name, v, ok)
	}
	wantSame(t, bound, want, alike(bound, want))
	return ok
}

// P20.1 to P20.4, rules 1, 3 and 4: whatever is drawn, no call panics, changes what it
// is given, or tells another thing than the chapter's words, or the next time.
func TestDrawn(t *testing.T) {
	met, passed, more := [2]int{}, [2]int{}, 0
	for i := range 6000 {
		d := drawerOf(i, []int{0, 5, 15, 50}[i%4])
		l := d.classes()
		f := d.fact(l)
		c, b := d.cond(l, f), d.bound()
		for range 2 {
			if wantLikeOwn(t, l, c, f, b) {
				met[1]++
				if all, _ := Match(l, c, f, b); len(all) > len(b) {
					more++
				}
			} else {
				met[0]++
			}
			if Passes(l, c, f) {
				passed[1]++
			} else {
				passed[0]++
			}
		}
		other := d.bound()
		wantSame(t, b, other, alike(b, other))
		if t.Failed() {
			return
		}
	}
	if met[0] < 2500 || met[1] < 2500 || passed[0] < 1500 || passed[1] < 2500 || more < 750 {
		t.Errorf("of what is drawn %v match or not, %v pass or not, %d bind more", met, passed, more)
	}
}

// Rule 1: no call panics, whatever the tags, the kinds, the preds, the names and the
// lists' lengths are; and what it tells is as the chapter's words say.
func TestWild(t *testing.T) {
	d := drawerOf(206, 1)
	n := func() int { return part(d, 0, 1, 2, -1, math.MinInt, math.MaxInt, 1<<40, 1<<40+1, -1<<40) }
	name := func() string { return part(d, "c", "p", "", "\xff", "\x00", "nil") }
	val := func() api.Value {
		return part(d, none, number(1), symbol("c"), api.Value{Kind: part(d, 0, 1, 2, uint8(d.Intn(256))), N: n(), S: name()})
	}
	matches := 0
	for range 8000 {
		var l []api.Class
		for range d.Intn(4) {
			k := classIs(name())
			for range part(d, 0, 1, d.Intn(4)) {
				k.Attrs = append(k.Attrs, name())
			}
			l = append(l, k)
		}
		f := api.Fact{Tag: part(d, 1, 1, n()), Class: name()}
		for range part(d, 0, 1, d.Intn(4)) {
			f.Vals = append(f.Vals, part(d, val(), none))
		}
		c := api.Cond{Neg: d.Intn(2) == 0, Class: part(d, f.Class, f.Class, name())}
		for range d.Intn(3) {
			a := asks(name())
			for range d.Intn(3) * d.Intn(2) {
				a.Ones = append(a.Ones, val())
			}
			for range d.Intn(3) {
				a.Tests = append(a.Tests, api.Test{Pred: part(d, 0, 1, uint8(d.Intn(256))), Var: part(d, "", name()), Val: val()})
			}
			c.Attrs = append(c.Attrs, a)
		}
		var b []api.Bound
		for range d.Intn(3) {
			b = append(b, is(name(), val()))
		}
		if wantLikeOwn(t, l, c, f, b) {
			matches++
		}
		if t.Failed() {
			return
		}
	}
	if matches < 100 {
		t.Errorf("%d match", matches)
	}
}
