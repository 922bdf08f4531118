package class

import (
	"math"
	"math/rand"
	"slices"
	"testing"

	"intarsia/api"
)

// drawer draws classes, facts and sets that may be mostly, but for a slip now and
// then. Its lists have spare room with something in it.
type drawer struct {
	*rand.Rand
	slips int // of how many steps one slips; 0: none
}

func (d drawer) slip() bool { return d.slips > 0 && d.Intn(d.slips) == 0 }

// part picks one of some parts.
func part[T any](d drawer, l ...T) T { return l[d.Intn(len(l))] }

func (d drawer) name() string {
	return part(d, "c", "d", "p", "q", "r", "s", "t", "u", "v", "", "\xff", "a b")
}

// unlike draws some names, each once, but for slips.
func (d drawer) unlike(least, most int, of ...string) []string {
	l := slices.Clone(of)
	d.Shuffle(len(l), func(i, k int) { l[i], l[k] = l[k], l[i] })
	l = l[:min(len(l), least+d.Intn(most-least+1))]
	for i := range l {
		if d.slip() {
			l[i] = part(d, d.name(), l[d.Intn(len(l))])
		}
	}
	return roomy(l, "z")
}

func (d drawer) classes() []api.Class {
	var l []api.Class
	for _, name := range d.unlike(1, 4, "c", "d", "e", "f", "") {
		l = append(l, classIs(name, d.unlike(0, 7, "p", "q", "r", "s", "t", "u", "")...))
	}
	return roomy(l, classIs("g", "p"))
}

func (d drawer) value() api.Value {
	if d.slip() {
		return part(d, wrongValues()...).Value
	}
	return part(d, append(rightValues(), num(d.Intn(100)), sym("b"), none, none)...)
}

func (d drawer) tag() int {
	if d.slip() {
		return part(d, tagsThatMayNo...)
	}
	return part(d, append(tagsThatMay, 1+d.Intn(mostTag))...)
}

// values draws as many values as that, but for a slip.
func (d drawer) values(n int) []api.Value {
	if d.slip() {
		n += part(d, -1, 1, 2)
	}
	l := []api.Value{}
	for range n {
		l = append(l, d.value())
	}
	return roomy(l, num(9))
}

func (d drawer) class(l []api.Class) api.Class {
	if d.slip() || len(l) == 0 {
		return classIs(d.name(), "p", "q")
	}
	return part(d, l...)
}

func (d drawer) fact(l []api.Class) api.Fact {
	c := d.class(l)
	return fact(d.tag(), c.Name, d.values(len(c.Attrs))...)
}

// sets draws sets of a class' attributes.
func (d drawer) sets(c api.Class) []api.Bound {
	l := []api.Bound{}
	for _, name := range d.unlike(0, 5, c.Attrs...) {
		l = append(l, set(name, d.value()))
	}
	return roomy(l, set("p", num(9)))
}

// P18.1 to P18.3, rules 1, 3 and 4: whatever is drawn, no call panics, changes what
// it is given, or tells another thing than the chapter's words, or the next time.
func TestDrawn(t *testing.T) {
	met := map[api.Errno]int{}
	for i := range 12000 {
		d := drawer{rand.New(rand.NewSource(int64(i))), []int{0, 3, 12, 40}[i%4]}
		l := d.classes()
		f, tag, c := d.fact(l), d.tag(), d.class(l)
		if own, ok := firstClass(l, f.Class); ok && !d.slip() {
			c = own
		}
		s := d.sets(c)
		for range 2 {
			met[drawnWith(t, l, f, tag, s)]++
			met[drawnMake(t, l, tag, c.Name, s)]++
			drawnAsked(t, l, f, d.fact(l), d.name())
		}
		if t.Failed() {
			return
		}
	}
	for _, err := range []api.Errno{api.OK, api.ErrForm, api.ErrName, api.ErrThere, api.ErrKind, api.ErrRange, api.ErrClass, api.ErrAttr, api.ErrTag} {
		if met[err] < 100 {
			t.Errorf("%d is drawn %d times", int(err), met[err])
		}
	}
}

func drawnWith(t *testing.T, l []api.Class, f api.Fact, tag int, s []api.Bound) api.Errno {
	t.Helper()
	want, err := ownWith(l, f, tag, s)
	if err != api.OK {
		wantNotWith(t, l, f, tag, s, err)
	} else {
		wantWith(t, l, f, tag, s, want)
	}
	return err
}

func drawnMake(t *testing.T, l []api.Class, tag int, name string, s []api.Bound) api.Errno {
	t.Helper()
	want, err := ownMake(l, tag, name, s)
	if err != api.OK {
		wantNotMade(t, l, tag, name, s, err)
	} else {
		wantMade(t, l, tag, name, s, want)
	}
	return err
}

// drawnAsked asks the calls that change nothing.
func drawnAsked(t *testing.T, l []api.Class, f, g api.Fact, name string) {
	t.Helper()
	kept(t, func() {
		if got, want := Check(l, f), ownCheck(l, f); got != want {
			t.Errorf("Check(%s, %s) = %d; want %d", short(l), short(f), int(got), int(want))
		}
	}, l, f)
	v, ok := ownGet(l, f, name)
	wantGot(t, l, f, name, v, ok)
	wantText(t, l, f, ownText(l, f))
	wantSame(t, f, g, alike(f, g))
	wantSame(t, f, f, true)
}

// Rule 1: no call panics, whatever the tags, the kinds, the numbers, the names and
// the lists' lengths are; and what it tells is as the chapter's words say.
func TestWild(t *testing.T) {
	d := drawer{rand.New(rand.NewSource(186)), 1}
	n := func() int {
		return part(d, 0, 1, 2, -1, math.MinInt, math.MaxInt, 1<<40, 1<<40+1, -1<<40, 1<<32)
	}
	name := func() string { return part(d, "c", "p", "", "\xff", "\x00", "nil", "1") }
	val := func() api.Value { return api.Value{Kind: part(d, 0, 1, 2, 3, uint8(d.Intn(256))), N: n(), S: name()} }
	for range 8000 {
		var l []api.Class
		for range d.Intn(4) {
			c := classIs(name())
			for range d.Intn(5) {
				c.Attrs = append(c.Attrs, name())
			}
			l = append(l, c)
		}
		var f, g api.Fact
		for _, x := range []*api.Fact{&f, &g} {
			x.Tag, x.Class = n(), name()
			for range d.Intn(5) {
				x.Vals = append(x.Vals, part(d, val(), none))
			}
		}
		var s []api.Bound
		for range d.Intn(5) {
			s = append(s, set(name(), part(d, val(), none, num(n()))))
		}
		drawnWith(t, l, f, n(), s)
		drawnMake(t, l, n(), name(), s)
		drawnAsked(t, l, f, g, name())
		if t.Failed() {
			return
		}
	}
}
