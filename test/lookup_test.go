package test

import (
	"testing"

	"intarsia/api"
)

// P20.1: the value of a variable that is bound, wherever it stands.
func TestLookup(t *testing.T) {
	l := binds(is("x", number(1)), is("y", symbol("a")), is("z", number(-3)))
	wantLookup(t, l, "x", number(1), true)
	wantLookup(t, l, "y", symbol("a"), true)
	wantLookup(t, l, "z", number(-3), true)
}

// P20.1: nothing and false of a name that is not there.
func TestLookupNone(t *testing.T) {
	l := binds(is("x", number(1)), is("yy", symbol("a")), is("\xff", number(-3)))
	for _, name := range names("", "y", "X", "x ", " x", "xx", "yyy", "\xfe", "1", "a", "\x00") {
		wantLookup(t, nil, name, none, false)
		wantLookup(t, binds(), name, none, false)
		wantLookup(t, l[:1], name, none, false)
		wantLookup(t, l, name, none, false)
	}
	wantLookup(t, nil, "x", none, false)
	wantLookup(t, l[1:], "x", none, false)
}

// P20.1: the empty name is one like any other.
func TestLookupEmpty(t *testing.T) {
	wantLookup(t, binds(is("", number(2))), "", number(2), true)
	wantLookup(t, binds(is("x", number(1)), is("", number(2)), is("", number(3))), "", number(2), true)
}

// P20.1: of several ones of one name the first counts.
func TestLookupTwice(t *testing.T) {
	l := binds(is("x", number(1)), is("x", number(2)), is("y", number(3)), is("x", number(4)), is("y", number(1)))
	wantLookup(t, l, "x", number(1), true)
	wantLookup(t, l[1:], "x", number(2), true)
	wantLookup(t, l[2:], "x", number(4), true)
	wantLookup(t, l, "y", number(3), true)
	wantLookup(t, l[3:], "y", number(1), true)
	wantLookup(t, binds(is("x", none), is("x", number(2))), "x", none, true)
}

// P20.1: what is bound to Nothing is there, and so is a value that may not be.
func TestLookupValues(t *testing.T) {
	for _, v := range append(rightValues(), wrongValues()...) {
		wantLookup(t, binds(is("y", number(1)), is("x", v)), "x", v, true)
		wantLookup(t, binds(is("x", v), is("y", number(1))), "x", v, true)
		wantLookup(t, binds(is("x", v)), "y", none, false)
	}
	wantLookup(t, binds(api.Bound{Name: "x"}), "x", none, true)
}
