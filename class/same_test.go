package class

import (
	"testing"

	"intarsia/api"
)

// P18.3: two facts are the same if they are so in all fields.
func TestSame(t *testing.T) {
	all := func() api.Fact { return fact(3, "c", num(1), none, sym("a")) }
	wantSame(t, all(), all(), true)
	for _, change := range []func(f *api.Fact){
		func(f *api.Fact) { f.Tag = 4 },
		func(f *api.Fact) { f.Tag = 3 + 1<<32 },
		func(f *api.Fact) { f.Tag = -3 },
		func(f *api.Fact) { f.Class = "d" },
		func(f *api.Fact) { f.Class = "" },
		func(f *api.Fact) { f.Class = "C" },
		func(f *api.Fact) { f.Class = "c " },
		func(f *api.Fact) { f.Vals = f.Vals[:2] },
		func(f *api.Fact) { f.Vals = append(f.Vals, none) },
		func(f *api.Fact) { f.Vals = f.Vals[1:] },
		func(f *api.Fact) { f.Vals = nil },
		func(f *api.Fact) { f.Vals[0].Kind = 2 },
		func(f *api.Fact) { f.Vals[0].N = 2 },
		func(f *api.Fact) { f.Vals[0].S = "1" },
		func(f *api.Fact) { f.Vals[1].Kind = 1 },
		func(f *api.Fact) { f.Vals[1].N = 1 },
		func(f *api.Fact) { f.Vals[1].S = "nil" },
		func(f *api.Fact) { f.Vals[2].Kind = 3 },
		func(f *api.Fact) { f.Vals[2].N = -1 },
		func(f *api.Fact) { f.Vals[2].S = "b" },
		func(f *api.Fact) { f.Vals[0], f.Vals[2] = f.Vals[2], f.Vals[0] },
	} {
		f := all()
		change(&f)
		wantSame(t, f, all(), false)
		wantSame(t, f, f, true)
	}
}

// P18.3, rule 3: no values and an empty list of them are the same, and spare room is
// no part of a list; facts that may not be are held against each other like others.
func TestSameEmpty(t *testing.T) {
	wantSame(t, api.Fact{}, api.Fact{}, true)
	wantSame(t, api.Fact{}, api.Fact{Vals: vals()}, true)
	wantSame(t, api.Fact{}, api.Fact{Vals: roomy(vals(), num(9))}, true)
	wantSame(t, api.Fact{Vals: vals()}, api.Fact{Vals: vals(none)}, false)
	wantSame(t, fact(1, "c"), api.Fact{Tag: 1, Class: "c", Vals: vals()}, true)
	wantSame(t, fact(1, "c", num(1)), api.Fact{Tag: 1, Class: "c", Vals: roomy(vals(num(1)), num(9))}, true)
	wantSame(t, fact(0, "\xff", api.Value{Kind: 9, N: 1 << 60, S: "\xff"}), fact(0, "\xff", api.Value{Kind: 9, N: 1 << 60, S: "\xff"}), true)
	wantSame(t, fact(-1, ""), fact(1, ""), false)
}
