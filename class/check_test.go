package class

import (
	"testing"

	"intarsia/api"
)

// P18.1: a tag is from 1 to MaxTag.
func TestCheckTag(t *testing.T) {
	for _, tag := range tagsThatMay {
		wantChecked(t, three(), fact(tag, "d", num(5)), api.OK)
		wantChecked(t, three(), fact(tag, "e"), api.OK)
	}
	for _, tag := range tagsThatMayNo {
		wantChecked(t, three(), fact(tag, "d", num(5)), api.ErrTag)
		wantChecked(t, three(), fact(tag, "e"), api.ErrTag)
	}
}

// P18.1: there is such a class; of two of one name it is the first one.
func TestCheckClass(t *testing.T) {
	wantChecked(t, nil, fact(1, "c"), api.ErrClass)
	wantChecked(t, classes(), fact(1, ""), api.ErrClass)
	for _, name := range []string{"", "f", "C", "cc", "c ", "p", "\xff"} {
		wantChecked(t, three(), fact(1, name, none), api.ErrClass)
		wantChecked(t, three(), fact(1, name), api.ErrClass)
	}
	for _, name := range []string{"", "a b", "\xff", "("} {
		wantChecked(t, append(three(), classIs(name, "p")), fact(1, name, none), api.OK)
	}
	twice := classes(classIs("a"), classIs("c", "p"), classIs("c", "p", "q"), classIs("c"))
	wantChecked(t, twice, fact(1, "c", none), api.OK)
	wantChecked(t, twice, fact(1, "c", none, none), api.ErrForm)
	wantChecked(t, twice, fact(1, "c"), api.ErrForm)
}

// P18.1: a fact has as many values as its class attributes, two of one name among
// them.
func TestCheckNumber(t *testing.T) {
	wantChecked(t, three(), fact(1, "c", none, none, none), api.OK)
	wantChecked(t, three(), fact(1, "d", none), api.OK)
	wantChecked(t, three(), fact(1, "e"), api.OK)
	wantChecked(t, three(), api.Fact{Tag: 1, Class: "e", Vals: vals()}, api.OK)
	wantChecked(t, classes(classIs("c", "p", "p")), fact(1, "c", none, num(1)), api.OK)
	wantChecked(t, three(), fact(1, "c", none, none), api.ErrForm)
	wantChecked(t, three(), fact(1, "c", none, none, none, none), api.ErrForm)
	wantChecked(t, three(), fact(1, "c"), api.ErrForm)
	wantChecked(t, three(), fact(1, "d"), api.ErrForm)
	wantChecked(t, three(), fact(1, "d", none, none), api.ErrForm)
	wantChecked(t, three(), fact(1, "e", none), api.ErrForm)
	wantChecked(t, classes(classIs("c", "p", "p")), fact(1, "c", none), api.ErrForm)
}

// P18.1: each value may be; else it is the error of the first one that may not.
func TestCheckValues(t *testing.T) {
	for i, v := range rightValues() {
		for _, w := range rightValues() {
			wantChecked(t, three(), fact(1+i, "c", v, w, v), api.OK)
		}
	}
	for _, v := range wrongValues() {
		wantChecked(t, three(), fact(1, "c", v.Value, num(1), none), v.err)
		wantChecked(t, three(), fact(1, "c", none, v.Value, sym("a")), v.err)
		wantChecked(t, three(), fact(1, "c", sym("a"), num(1), v.Value), v.err)
		wantChecked(t, three(), fact(1, "d", v.Value), v.err)
		for _, w := range wrongValues() {
			wantChecked(t, three(), fact(1, "c", v.Value, w.Value, none), v.err)
			wantChecked(t, three(), fact(1, "c", none, v.Value, w.Value), v.err)
			wantChecked(t, three(), fact(1, "c", v.Value, none, w.Value), v.err)
		}
	}
}

// P18.1, rule 2: of several errors it is the tag's, then the class', then that of
// the number of values, then a value's.
func TestCheckOrder(t *testing.T) {
	wrong := vals(api.Value{Kind: 3})
	for _, tag := range []int{1, 0, mostTag + 1} {
		for _, name := range []string{"d", "f"} {
			for _, l := range [][]api.Value{vals(none), wrong, nil, vals(none, none), vals(wrong[0], wrong[0])} {
				want := api.OK
				switch {
				case tag != 1:
					want = api.ErrTag
				case name == "f":
					want = api.ErrClass
				case len(l) != 1:
					want = api.ErrForm
				case l[0] == wrong[0]:
					want = api.ErrKind
				}
				wantChecked(t, three(), fact(tag, name, l...), want)
			}
		}
	}
}
