package class

import (
	"testing"

	"intarsia/api"
)

// P18.3: a fact's text has its class, and each attribute that is not Nothing, in the
// class' order.
func TestText(t *testing.T) {
	wantText(t, three(), fact(1, "e"), "(e)")
	wantText(t, three(), fact(1, "e", vals()...), "(e)")
	wantText(t, three(), fact(1, "d", none), "(d)")
	wantText(t, three(), fact(1, "c", none, none, none), "(c)")
	wantText(t, three(), fact(1, "c", num(1), none, none), "(c ^p 1)")
	wantText(t, three(), fact(1, "c", none, num(1), none), "(c ^q 1)")
	wantText(t, three(), fact(1, "c", none, none, num(1)), "(c ^r 1)")
	wantText(t, three(), fact(1, "c", num(1), none, sym("b")), "(c ^p 1 ^r b)")
	wantText(t, three(), fact(1, "c", num(0), sym("b"), num(3)), "(c ^p 0 ^q b ^r 3)")
	wantText(t, three(), fact(mostTag, "c", num(3), sym("b"), num(0)), "(c ^p 3 ^q b ^r 0)")
	wantText(t, classes(classIs("c", "q", "p")), fact(1, "c", num(1), num(2)), "(c ^q 1 ^p 2)")
}

// P18.3: the values' texts, numbers and symbols of all kinds.
func TestTextValues(t *testing.T) {
	for want, v := range map[string]api.Value{
		"(d ^q 0)":                        num(0),
		"(d ^q -7)":                       num(-7),
		"(d ^q 1099511627776)":            num(1 << 40),
		"(d ^q -1099511627776)":           num(-1 << 40),
		"(d ^q a)":                        sym("a"),
		"(d ^q -)":                        sym("-"),
		"(d ^q +?!*._)":                   sym("+?!*._"),
		"(d ^q 1a)":                       sym("1a"),
		"(d ^q Nil)":                      sym("Nil"),
		"(d ^q é)":                        sym("é"),
		"(d ^q abcdefghijklmnopqrstuvwx)": sym("abcdefghijklmnopqrstuvwx"),
		"(d)":                             none,
	} {
		wantText(t, three(), fact(1, "d", v), want)
	}
}

// P18.3: names stand as they are; both of two attributes of one name are told, and
// of two classes the first one counts.
func TestTextNames(t *testing.T) {
	wantText(t, classes(classIs("")), fact(1, ""), "()")
	wantText(t, classes(classIs("", "", "a b")), fact(1, "", num(1), num(2)), "( ^ 1 ^a b 2)")
	wantText(t, classes(classIs("\xff(", "^")), fact(1, "\xff(", num(1)), "(\xff( ^^ 1)")
	wantText(t, classes(classIs("c", "p", "p")), fact(1, "c", num(1), num(2)), "(c ^p 1 ^p 2)")
	wantText(t, classes(classIs("c", "p", "p")), fact(1, "c", none, num(2)), "(c ^p 2)")
	wantText(t, classes(classIs("c", "p"), classIs("c", "q")), fact(1, "c", num(1)), "(c ^p 1)")
}

// P18.3: a fact that Check refuses has no text. (wantChecked asks for it of each of
// its errors.)
func TestTextRefused(t *testing.T) {
	for _, f := range []api.Fact{
		{}, fact(0, "c", num(1), none, none), fact(mostTag+1, "e"), fact(1, "f"), fact(1, "d"), fact(1, "e", none),
		fact(1, "d", num(1<<50)), fact(1, "c", none, none, sym("nil")),
	} {
		wantText(t, three(), f, "")
	}
}
