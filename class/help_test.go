package class

import (
	"fmt"
	"math"
	"reflect"
	"strconv"
	"testing"

	"intarsia/api"
)

const mostTag = 1 << 40 // the greatest tag that may be

// tagsThat are tags that may be, and tags that may not.
var (
	tagsThatMay   = []int{1, 2, 3, 1 << 31, 1 << 32, mostTag - 1, mostTag}
	tagsThatMayNo = []int{0, -1, -3, -mostTag, mostTag + 1, 2 * mostTag, math.MaxInt, math.MinInt, 1<<33 - 1<<44}
)

// Short forms of what is handed in.
func classIs(name string, attrs ...string) api.Class { return api.Class{Name: name, Attrs: attrs} }
func classes(l ...api.Class) []api.Class             { return l }
func fact(tag int, name string, l ...api.Value) api.Fact {
	return api.Fact{Tag: tag, Class: name, Vals: l}
}
func vals(l ...api.Value) []api.Value        { return l }
func num(n int) api.Value                    { return api.Value{Kind: 1, N: n} }
func sym(s string) api.Value                 { return api.Value{Kind: 2, S: s} }
func set(name string, v api.Value) api.Bound { return api.Bound{Name: name, Val: v} }
func sets(l ...api.Bound) []api.Bound        { return l }

var none = api.Value{}

// three are c, with p, q and r, d, with q alone, and e, without attributes.
func three() []api.Class {
	return classes(classIs("c", "p", "q", "r"), classIs("d", "q"), classIs("e"))
}

// wrongValue is a value that may not be, and its error.
type wrongValue struct {
	api.Value
	err api.Errno
}

// wrongValues has a value of each kind that may not be.
func wrongValues() []wrongValue {
	return []wrongValue{
		{api.Value{Kind: 3}, api.ErrKind},
		{api.Value{Kind: 3, N: 1 << 50, S: "a"}, api.ErrKind},
		{api.Value{Kind: 255}, api.ErrKind},
		{api.Value{N: 1}, api.ErrForm},
		{api.Value{S: "a"}, api.ErrForm},
		{api.Value{Kind: 1, S: "a"}, api.ErrForm},
		{api.Value{Kind: 1, N: 1 << 50, S: "a"}, api.ErrForm},
		{api.Value{Kind: 2, N: 1, S: "a"}, api.ErrForm},
		{num(1<<40 + 1), api.ErrRange},
		{num(-1<<40 - 1), api.ErrRange},
		{num(math.MinInt), api.ErrRange},
		{sym(""), api.ErrName},
		{sym("nil"), api.ErrName},
		{sym("12"), api.ErrName},
		{sym("-12"), api.ErrName},
		{sym("a b"), api.ErrName},
		{sym("\xff"), api.ErrName},
		{sym("abcdefghijklmnopqrstuvwxy"), api.ErrName},
	}
}

// rightValues are values that may be.
func rightValues() []api.Value {
	return vals(none, num(0), num(-7), num(1<<40), num(-1<<40), sym("a"), sym("-"), sym("é"), sym("abcdefghijklmnopqrstuvwx"))
}

// kept asks that a call leaves what it is given as it is, the spare room, too.
func kept(t *testing.T, call func(), given ...any) {
	t.Helper()
	was := spelledAll(given)
	call()
	if is := spelledAll(given); is != was {
		t.Fatalf("changed: %.600s; it was %.600s", is, was)
	}
}

// roomy lays a list into more room than it needs, with something in it.
func roomy[T any](l []T, more T) []T {
	return append(append(make([]T, 0, len(l)+2), l...), more, more)[:len(l)]
}

// wantChecked asks for a fact's error; and, if it has one, that every other call
// refuses it, whatever else is wrong in what it is given.
func wantChecked(t *testing.T, l []api.Class, f api.Fact, want api.Errno) {
	t.Helper()
	f.Vals = roomy(f.Vals, num(9))
	kept(t, func() {
		if got := Check(l, f); got != want {
			t.Errorf("Check(%s, %s) = %d; want %d", short(l), short(f), int(got), int(want))
		}
		if own := ownCheck(l, f); own != want {
			t.Errorf("Check(%s, %s): the test's own telling is %d; want %d", short(l), short(f), int(own), int(want))
		}
	}, l, f)
	if want == api.OK {
		return
	}
	for _, tag := range []int{f.Tag, 1, 0} {
		for _, s := range [][]api.Bound{nil, {set("p", none)}, {set("z", none)}, {set("q", none), set("q", none)}, {set("q", api.Value{Kind: 3})}} {
			wantNotWith(t, l, f, tag, s, want)
		}
	}
	for _, name := range []string{"p", "q", "r", "z", ""} {
		wantGot(t, l, f, name, none, false)
	}
	wantText(t, l, f, "")
}

func wantWith(t *testing.T, l []api.Class, f api.Fact, tag int, s []api.Bound, want api.Fact) {
	t.Helper()
	s = roomy(s, set("z", num(8)))
	kept(t, func() {
		got, err := With(l, f, tag, s)
		if err != api.OK || !alike(got, want) {
			t.Errorf("With(%s, %s, %d, %s) = %s, %d; want %s", short(l), short(f), tag, short(s), short(got), int(err), short(want))
		}
		own, err := ownWith(l, f, tag, s)
		if err != api.OK || !alike(own, want) {
			t.Errorf("With(%s, %s, %d, %s): the test's own telling is %s, %d; want %s", short(l), short(f), tag, short(s), short(own), int(err), short(want))
		}
	}, l, f, s)
}

func wantNotWith(t *testing.T, l []api.Class, f api.Fact, tag int, s []api.Bound, want api.Errno) {
	t.Helper()
	s = roomy(s, set("p", num(8)))
	kept(t, func() {
		got, err := With(l, f, tag, s)
		if err != want || !alike(got, api.Fact{}) {
			t.Errorf("With(%s, %s, %d, %s) = %s, %d; want none, %d", short(l), short(f), tag, short(s), short(got), int(err), int(want))
		}
		if _, own := ownWith(l, f, tag, s); own != want {
			t.Errorf("With(%s, %s, %d, %s): the test's own telling is %d; want %d", short(l), short(f), tag, short(s), int(own), int(want))
		}
	}, l, f, s)
}

func wantMade(t *testing.T, l []api.Class, tag int, name string, s []api.Bound, want api.Fact) {
	t.Helper()
	s = roomy(s, set("z", num(8)))
	kept(t, func() {
		got, err := Make(l, tag, name, s)
		if err != api.OK || !alike(got, want) {
			t.Errorf("Make(%s, %d, %q, %s) = %s, %d; want %s", short(l), tag, name, short(s), short(got), int(err), short(want))
		}
		own, err := ownMake(l, tag, name, s)
		if err != api.OK || !alike(own, want) {
			t.Errorf("Make(%s, %d, %q, %s): the test's own telling is %s, %d; want %s", short(l), tag, name, short(s), short(own), int(err), short(want))
		}
	}, l, s)
}

func wantNotMade(t *testing.T, l []api.Class, tag int, name string, s []api.Bound, want api.Errno) {
	t.Helper()
	s = roomy(s, set("p", num(8)))
	kept(t, func() {
		got, err := Make(l, tag, name, s)
		if err != want || !alike(got, api.Fact{}) {
			t.Errorf("Make(%s, %d, %q, %s) = %s, %d; want none, %d", short(l), tag, name, short(s), short(got), int(err), int(want))
		}
		if _, own := ownMake(l, tag, name, s); own != want {
			t.Errorf("Make(%s, %d, %q, %s): the test's own telling is %d; want %d", short(l), tag, name, short(s), int(own), int(want))
		}
	}, l, s)
}

func wantGot(t *testing.T, l []api.Class, f api.Fact, name string, want api.Value, there bool) {
	t.Helper()
	kept(t, func() {
		if got, ok := Get(l, f, name); got != want || ok != there {
			t.Errorf("Get(%s, %s, %q) = %+v, %v; want %+v, %v", short(l), short(f), name, got, ok, want, there)
		}
		if own, ok := ownGet(l, f, name); own != want || ok != there {
			t.Errorf("Get(%s, %s, %q): the test's own telling is %+v, %v; want %+v, %v", short(l), short(f), name, own, ok, want, there)
		}
	}, l, f)
}

func wantText(t *testing.T, l []api.Class, f api.Fact, want string) {
	t.Helper()
	kept(t, func() {
		if got := Text(l, f); got != want {
			t.Errorf("Text(%s, %s) = %q; want %q", short(l), short(f), got, want)
		}
		if own := ownText(l, f); own != want {
			t.Errorf("Text(%s, %s): the test's own telling is %q; want %q", short(l), short(f), own, want)
		}
	}, l, f)
}

func wantSame(t *testing.T, a, b api.Fact, want bool) {
	t.Helper()
	kept(t, func() {
		if Same(a, b) != want || Same(b, a) != want {
			t.Errorf("Same(%s, %s) = %v, and the other way round %v; want %v", short(a), short(b), Same(a, b), Same(b, a), want)
		}
		if alike(a, b) != want {
			t.Errorf("Same(%s, %s): the test's own telling is not %v", short(a), short(b), want)
		}
	}, a, b)
}

// spelledAll tells all that some things have, their lists' spare room, too.
func spelledAll(l []any) string {
	s := ""
	for _, x := range l {
		s += spelled(reflect.ValueOf(x)) + "\n"
	}
	return s
}

func spelled(v reflect.Value) string {
	s := ""
	switch v.Kind() {
	case reflect.Slice:
		s = strconv.Itoa(v.Len()) + "/" + strconv.Itoa(v.Cap())
		for i := range v.Cap() {
			s += "[" + spelled(v.Slice(0, v.Cap()).Index(i)) + "]"
		}
	case reflect.Struct:
		for i := range v.NumField() {
			s += "{" + spelled(v.Field(i)) + "}"
		}
	case reflect.String:
		s = strconv.Quote(v.String())
	case reflect.Int:
		s = strconv.FormatInt(v.Int(), 10)
	default:
		s = strconv.FormatUint(v.Uint(), 10)
	}
	return s
}

// short tells the beginning of a thing.
func short(x any) string { return fmt.Sprintf("%.300s", fmt.Sprintf("%+v", x)) }
