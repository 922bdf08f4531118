package check

import (
	"testing"

	"intarsia/api"
)

// P17.2: classes that may be, also without any, and with names that no text has.
func TestClasses(t *testing.T) {
	wantClasses(t, api.OK)
	wantClasses(t, api.OK, twoClasses()...)
	wantClasses(t, api.OK, classOf("a"), classOf("b"), classOf("c"))
	wantClasses(t, api.OK, classOf("a", "a", "b"), classOf("b", "a", "b"))
	wantClasses(t, api.OK, classOf(""), classOf("a", "", "b"), classOf("b", "", "c"))
	wantClasses(t, api.OK, classOf("\xff", "a b", "a", "(", "A"), classOf("\xfe", "\xff"), classOf("nil"), classOf("-->"))
}

// P17.2: a class that stands twice, at each two of four places.
func TestClassTwice(t *testing.T) {
	wantClasses(t, api.ErrThere, classOf("a"), classOf("a"))
	wantClasses(t, api.ErrThere, classOf("a", "p"), classOf("a", "q"))
	wantClasses(t, api.ErrThere, classOf(""), classOf("a"), classOf(""))
	for i := range 4 {
		for k := range i {
			l := []api.Class{classOf("a", "p"), classOf("b"), classOf("c", "q", "r"), classOf("d", "p")}
			wantClasses(t, api.OK, l...)
			l[i].Name = l[k].Name
			wantClasses(t, api.ErrThere, l...)
		}
	}
}

// P17.2: an attribute that stands twice, at each two of four places of each
// class.
func TestAttributeTwice(t *testing.T) {
	wantClasses(t, api.ErrThere, classOf("a", "p", "p"))
	wantClasses(t, api.ErrThere, classOf("a", "", "p", ""))
	for at := range 3 {
		for i := range 4 {
			for k := range i {
				l := []api.Class{classOf("a", "p", "q", "r", "s"), classOf("b", "s", "r", "q", "p"), classOf("c", "p", "t", "u", "v")}
				wantClasses(t, api.OK, l...)
				l[at].Attrs[i] = l[at].Attrs[k]
				wantClasses(t, api.ErrThere, l...)
			}
		}
	}
}

// P17.2: both are wrong, in either order; and a class behind the wrong one is
// not needed, whatever it is.
func TestClassesBothWrong(t *testing.T) {
	wantClasses(t, api.ErrThere, classOf("a", "p", "p"), classOf("a"))
	wantClasses(t, api.ErrThere, classOf("a"), classOf("a", "p", "p"))
	wantClasses(t, api.ErrThere, classOf("a"), classOf("a"), classOf("b", "p", "p"))
	wantClasses(t, api.ErrThere, classOf("b", "p", "p"), classOf("a"), classOf("a"))
	wantClasses(t, api.ErrThere, classOf("a", "p", "p"), classOf("b", "q"))
	wantClasses(t, api.ErrThere, classOf("a"), classOf("a"), classOf("b", "q"))
}
