package dir

import (
	"slices"
	"testing"
)

// P11.3, example 1.
func TestExample(t *testing.T) {
	d, ok := Double(One(7))
	wantDir(t, "Double", d, of(1, 7, 7))
	if !ok {
		t.Error("not doubled")
	}
	e := Set(d, 1, 1, 9)
	wantDir(t, "Set", e, of(1, 7, 9))
	h, ok := Halve(e)
	wantDir(t, "Halve", h, of(1, 7, 9))
	if ok {
		t.Error("halved")
	}
}

func wantDouble(t *testing.T, d, want Dir, wantOK bool) {
	t.Helper()
	kept := copied(d)
	got, ok := Double(d)
	wantDir(t, "Double", got, want)
	wantDir(t, "behind Double", d, kept)
	if ok != wantOK {
		t.Errorf("Double of %v: %v", d, ok)
	}
}

func wantHalve(t *testing.T, d, want Dir, wantOK bool) {
	t.Helper()
	kept := copied(d)
	got, ok := Halve(d)
	wantDir(t, "Halve", got, want)
	wantDir(t, "behind Halve", d, kept)
	if ok != wantOK {
		t.Errorf("Halve of %v: %v", d, ok)
	}
}

// P11.3: slots in order, each twice; and back.
func TestDoubleAndHalveTold(t *testing.T) {
	for _, c := range []struct{ d, twice Dir }{
		{of(0, 1), of(1, 1, 1)},
		{of(0, 3000), of(1, 3000, 3000)},
		{of(1, 2, 1), of(2, 2, 2, 1, 1)},
		{of(2, 7, 7, 8, 9), of(3, 7, 7, 7, 7, 8, 8, 9, 9)},
		{of(2, 4, 3, 4, 3), of(3, 4, 4, 3, 3, 4, 4, 3, 3)},
	} {
		wantDouble(t, c.d, c.twice, true)
		wantHalve(t, c.twice, c.d, true)
	}
}

// P11.3: from Depth 0 to 10 and back, with slots that are set on the way.
func TestUpAndDown(t *testing.T) {
	way := []Dir{One(1)}
	for depth := 1; depth <= 10; depth++ {
		last := way[depth-1]
		want := Dir{Depth: depth}
		for _, id := range last.Slots {
			want.Slots = append(want.Slots, id, id)
		}
		wantDouble(t, last, want, true)
		way = append(way, want)
	}
	wantDouble(t, way[10], way[10], false)
	for depth := 10; depth > 0; depth-- {
		wantHalve(t, way[depth], way[depth-1], true)
	}
	wantHalve(t, way[0], way[0], false)
}

// P11.3: from slots that are all others, up to Depth 10, and down to where they
// came from, and no further.
func TestUpAndDownOfOthers(t *testing.T) {
	for depth := range 10 {
		d := full(depth)
		for d.Depth < 10 {
			var ok bool
			if d, ok = Double(d); !ok {
				t.Fatal(d.Depth)
			}
		}
		for place, id := range d.Slots {
			if want := place*twos(depth)/1024 + 1; id != want {
				t.Errorf("depth %d: slot %d at %d, want %d", depth, id, place, want)
			}
		}
		for d.Depth > depth {
			var ok bool
			if d, ok = Halve(d); !ok {
				t.Fatal(d.Depth)
			}
		}
		wantDir(t, "back", d, full(depth))
		wantHalve(t, d, full(depth), false)
	}
}

// P11.3: two that belong together and are not the same: at the first place, at
// the last, and between.
func TestHalveUnlike(t *testing.T) {
	for depth := 1; depth <= 10; depth++ {
		n := twos(depth)
		for _, at := range []int{0, 1, n / 2, n - 2, n - 1} {
			d := Dir{Depth: depth, Slots: with(all(n, 5), at, 6)}
			wantHalve(t, d, d, false)
		}
		d := full(depth)
		wantHalve(t, d, d, false)
	}
	// Those beside each other that don't belong together may differ.
	wantHalve(t, of(2, 1, 1, 2, 2), of(1, 1, 2), true)
	wantHalve(t, of(2, 1, 2, 2, 1), of(2, 1, 2, 2, 1), false)
	wantHalve(t, of(2, 1, 2, 1, 2), of(2, 1, 2, 1, 2), false)
}

// P11.3: Double at Depth 10, Halve at Depth 0, and both of one that Check
// refuses, also where all else would let them.
func TestNotDoubledNotHalved(t *testing.T) {
	wantDouble(t, full(10), full(10), false)
	wantDouble(t, Dir{Depth: 10, Slots: all(1024, 5)}, Dir{Depth: 10, Slots: all(1024, 5)}, false)
	for _, id := range []int{1, 3000} {
		wantHalve(t, One(id), One(id), false)
	}
	for _, c := range refused() {
		wantDouble(t, c.d, c.d, false)
		wantHalve(t, c.d, c.d, false)
	}
	for _, id := range []int{0, 3001, -1} {
		wantDouble(t, One(id), One(id), false)
		wantDouble(t, of(1, 4, id), of(1, 4, id), false)
		wantHalve(t, of(1, id, id), of(1, id, id), false)
		wantHalve(t, of(2, 4, 4, id, id), of(2, 4, 4, id, id), false)
	}
}

// Rule 3: what is answered shares no memory with d, whether it was changed or
// not.
func TestShapesAreTheirOwn(t *testing.T) {
	double := func(d Dir) Dir { e, _ := Double(d); return e }
	halve := func(d Dir) Dir { e, _ := Halve(d); return e }
	l := []Dir{of(0, 7), of(1, 7, 7), of(1, 7, 9), of(2, 1, 1, 2, 2), full(10), {Depth: 10, Slots: all(1024, 5)}}
	for _, c := range refused() {
		l = append(l, c.d)
	}
	for _, d := range l {
		wantOwn(t, "Double", d, double)
		wantOwn(t, "Halve", d, halve)
	}
}

// The same is answered again (rule 4).
func TestShapesAgain(t *testing.T) {
	d := of(2, 1, 1, 2, 2)
	a, _ := Double(d)
	a.Slots[0] = 9
	b, _ := Double(d)
	if !slices.Equal(b.Slots, []int{1, 1, 1, 1, 2, 2, 2, 2}) {
		t.Error(b)
	}
	a, _ = Halve(d)
	a.Slots[0] = 9
	b, _ = Halve(d)
	if !slices.Equal(b.Slots, []int{1, 2}) {
		t.Error(b)
	}
}
