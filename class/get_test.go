package class

import (
	"testing"

	"intarsia/api"
)

// P18.3: Get tells the value of an attribute that the class has.
func TestGet(t *testing.T) {
	f := fact(1, "c", num(5), none, sym("a"))
	wantGot(t, three(), f, "p", num(5), true)
	wantGot(t, three(), f, "q", none, true)
	wantGot(t, three(), f, "r", sym("a"), true)
	for _, name := range []string{"", "z", "P", "c", "pp", "^p", "\xff"} {
		wantGot(t, three(), f, name, none, false)
		wantGot(t, three(), fact(1, "e"), name, none, false)
	}
	for _, v := range rightValues() {
		wantGot(t, three(), fact(mostTag, "d", v), "q", v, true)
		wantGot(t, three(), fact(mostTag, "d", v), "p", none, false)
		wantGot(t, three(), fact(1, "c", num(1), num(2), v), "r", v, true)
	}
	wantGot(t, classes(classIs("", "a", "")), fact(1, "", num(1), num(2)), "", num(2), true)
}

// P18.3: of an attribute that stands twice it is the value of the first place; of
// two classes the first one counts.
func TestGetTwice(t *testing.T) {
	l := classes(classIs("c", "q", "p", "q", "p"), classIs("c", "p", "q", "r", "s"))
	f := fact(1, "c", num(1), num(2), num(3), num(4))
	wantGot(t, l, f, "p", num(2), true)
	wantGot(t, l, f, "q", num(1), true)
	wantGot(t, l, f, "r", none, false)
	wantGot(t, l, fact(1, "c", none, num(2), num(3), num(4)), "q", none, true)
}

// P18.3: of a fact that Check refuses nothing is told, whatever is wrong in it.
// (wantChecked asks for it, too.)
func TestGetRefused(t *testing.T) {
	refused := []api.Fact{
		fact(0, "c", num(1), num(2), num(3)), fact(-1, "c", num(1), num(2), num(3)), fact(mostTag+1, "c", num(1), num(2), num(3)),
		fact(1, "f", num(1), num(2), num(3)), fact(1, "", num(1), num(2), num(3)),
		fact(1, "c", num(1), num(2)), fact(1, "c", num(1), num(2), num(3), num(4)), fact(1, "c"), {},
	}
	for _, v := range wrongValues() {
		refused = append(refused, fact(1, "c", v.Value, num(2), num(3)), fact(1, "c", num(1), v.Value, num(3)), fact(1, "c", num(1), num(2), v.Value))
	}
	for _, f := range refused {
		for _, name := range []string{"p", "q", "r", "z", ""} {
			wantGot(t, three(), f, name, none, false)
			wantGot(t, nil, f, name, none, false)
		}
		wantText(t, three(), f, "")
		wantText(t, nil, f, "")
	}
}
