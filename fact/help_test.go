package fact

import (
	"fmt"
	"math"
	"reflect"
	"strconv"
	"strings"
	"testing"

	"intarsia/api"
)

const (
	mostTag = 1 << 40 // the greatest tag that may be
	most    = 160     // bytes of a value in a table
)

// tagsThat are tags that may be, and tags that may not.
var (
	tagsThatMay   = []int{1, 2, 7, 254, 255, 256, 257, 65535, 65536, 1<<24 - 1, 1 << 24, 1<<31 - 1, 1 << 31, 1<<32 - 1, 1 << 32, 1<<40 - 1, 1 << 40}
	tagsThatMayNo = []int{0, -1, -7, -255, -256, -mostTag, -mostTag - 1, mostTag + 1, mostTag + 256, 2 * mostTag, 1<<48 - 1, 1 << 48, 1<<48 + 1, 1 << 56, math.MaxInt, math.MinInt, math.MinInt + 1}
)

// Short forms of what is handed in.
func classIs(name string, attrs ...string) api.Class { return api.Class{Name: name, Attrs: attrs} }
func classes(l ...api.Class) []api.Class             { return l }
func fact(tag int, name string, l ...api.Value) api.Fact {
	return api.Fact{Tag: tag, Class: name, Vals: l}
}
func vals(l ...api.Value) []api.Value { return l }
func number(n int) api.Value          { return api.Value{Kind: 1, N: n} }
func symbol(s string) api.Value       { return api.Value{Kind: 2, S: s} }

var none = api.Value{}

// widest has the most bytes that a symbol may have.
const widest = "abcdefghijklmnopqrstuvwx"

// three are c, with p, q and r, d, with q alone, and e, without attributes.
func three() []api.Class {
	return classes(classIs("c", "p", "q", "r"), classIs("d", "q"), classIs("e"))
}

// many are classes, as many as that, each with another name, and with p alone.
func many(n int) []api.Class {
	var l []api.Class
	for i := range n {
		l = append(l, classIs("k"+strconv.Itoa(i), "p"))
	}
	return l
}

// wide is a class of that name with as many attributes as that.
func wide(name string, n int) api.Class {
	c := classIs(name)
	for i := range n {
		c.Attrs = append(c.Attrs, "a"+strconv.Itoa(i))
	}
	return c
}

// times tells a value as often as that.
func times(n int, v api.Value) []api.Value {
	l := make([]api.Value, n)
	for i := range l {
		l[i] = v
	}
	return l
}

// joined tells lists one behind the other.
func joined(l ...[]api.Value) []api.Value {
	var all []api.Value
	for _, m := range l {
		all = append(all, m...)
	}
	return all
}

// wrongValue is a value that may not be, and its error.
type wrongValue struct {
	api.Value
	err api.Errno
}

// wrongValues has a value of each kind that may not be.
func wrongValues() []wrongValue {
	return []wrongValue{
		{api.Value{Kind: 3}, api.ErrKind},
		{api.Value{Kind: 3, N: 1 << 50, S: "a"}, api.ErrKind},
		{api.Value{Kind: 255}, api.ErrKind},
		{api.Value{N: 1}, api.ErrForm},
		{api.Value{S: "a"}, api.ErrForm},
		{api.Value{Kind: 1, S: "a"}, api.ErrForm},
		{api.Value{Kind: 2, N: 1, S: "a"}, api.ErrForm},
		{number(1<<40 + 1), api.ErrRange},
		{number(-1<<40 - 1), api.ErrRange},
		{number(math.MinInt), api.ErrRange},
		{number(math.MaxInt), api.ErrRange},
		{symbol(""), api.ErrName},
		{symbol("nil"), api.ErrName},
		{symbol("12"), api.ErrName},
		{symbol("-12"), api.ErrName},
		{symbol("a b"), api.ErrName},
		{symbol("\xff"), api.ErrName},
		{symbol(widest + "y"), api.ErrName},
		{symbol(strings.Repeat("a", 300)), api.ErrName},
	}
}

// rightValues are values that may be.
func rightValues() []api.Value {
	return vals(none, number(0), number(1), number(-1), number(-7), number(255), number(256), number(1<<40), number(-1<<40), number(1<<40-1), symbol("a"), symbol("-"), symbol("nill"), symbol("é"), symbol("\U0010ffff"), symbol(widest))
}

// kept asks that a call leaves what it is given as it is, the spare room, too.
func kept(t *testing.T, call func(), given ...any) {
	t.Helper()
	was := spelledAll(given)
	call()
	if is := spelledAll(given); is != was {
		t.Fatalf("changed: %.600s; it was %.600s", is, was)
	}
}

// roomy lays a list into more room than it needs, with something in it.
func roomy[T any](l []T, more T) []T {
	return append(append(make([]T, 0, len(l)+2), l...), more, more)[:len(l)]
}

func wantKey(t *testing.T, tag int, want string, err api.Errno) {
	t.Helper()
	if got, e := Key(tag); got != want || e != err {
		t.Errorf("Key(%d) = %x, %d; want %x, %d", tag, got, int(e), want, int(err))
	}
	if own, e := ownKey(tag); own != want || e != err {
		t.Errorf("Key(%d): the test's own telling is %x, %d; want %x, %d", tag, own, int(e), want, int(err))
	}
}

func wantTag(t *testing.T, key string, want int, err api.Errno) {
	t.Helper()
	if got, e := Tag(key); got != want || e != err {
		t.Errorf("Tag(%.99x) = %d, %d; want %d, %d", key, got, int(e), want, int(err))
	}
	if own, e := ownTag(key); own != want || e != err {
		t.Errorf("Tag(%.99x): the test's own telling is %d, %d; want %d, %d", key, own, int(e), want, int(err))
	}
}

// wantPut asks for a fact's bytes, and that it is got of them.
func wantPut(t *testing.T, l []api.Class, f api.Fact, want string) {
	t.Helper()
	l, f.Vals = roomy(l, classIs("spare", "p")), roomy(f.Vals, number(9))
	kept(t, func() {
		if got, err := Put(l, f); got != want || err != api.OK {
			t.Errorf("Put(%s, %s) = %x, %d; want %x", short(l), short(f), got, int(err), want)
		}
		if own, err := ownPut(l, f); own != want || err != api.OK {
			t.Errorf("Put(%s, %s): the test's own telling is %x, %d; want %x", short(l), short(f), own, int(err), want)
		}
	}, l, f)
	wantGot(t, l, f.Tag, want, f)
}

func wantNotPut(t *testing.T, l []api.Class, f api.Fact, want api.Errno) {
	t.Helper()
	l, f.Vals = roomy(l, classIs("spare", "p")), roomy(f.Vals, number(9))
	kept(t, func() {
		if got, err := Put(l, f); got != "" || err != want {
			t.Errorf("Put(%s, %s) = %x, %d; want none, %d", short(l), short(f), got, int(err), int(want))
		}
		if _, err := ownPut(l, f); err != want {
			t.Errorf("Put(%s, %s): the test's own telling is %d; want %d", short(l), short(f), int(err), int(want))
		}
	}, l, f)
}

func wantGot(t *testing.T, l []api.Class, tag int, val string, want api.Fact) {
	t.Helper()
	l = roomy(l, classIs("spare", "p"))
	kept(t, func() {
		if got, err := Get(l, tag, val); !alike(got, want) || err != api.OK {
			t.Errorf("Get(%s, %d, %x) = %s, %d; want %s", short(l), tag, val, short(got), int(err), short(want))
		}
		if own, err := ownGet(l, tag, val); !alike(own, want) || err != api.OK {
			t.Errorf("Get(%s, %d, %x): the test's own telling is %s, %d; want %s", short(l), tag, val, short(own), int(err), short(want))
		}
	}, l)
}

func wantNotGot(t *testing.T, l []api.Class, tag int, val string) {
	t.Helper()
	l = roomy(l, classIs("spare", "p"))
	kept(t, func() {
		if got, err := Get(l, tag, val); !alike(got, api.Fact{}) || err != api.ErrForm {
			t.Errorf("Get(%s, %d, %.400x) = %s, %d; want none, 4", short(l), tag, val, short(got), int(err))
		}
		if own, err := ownGet(l, tag, val); err != api.ErrForm {
			t.Errorf("Get(%s, %d, %.400x): the test's own telling is %s, %d; want none, 4", short(l), tag, val, short(own), int(err))
		}
	}, l)
}

// wantLikeOwn asks Get of what the chapter's words, told apart, say of it; and
// answers whether there is a fact.
func wantLikeOwn(t *testing.T, l []api.Class, tag int, val string) bool {
	t.Helper()
	want, err := ownGet(l, tag, val)
	if err == api.OK {
		wantGot(t, l, tag, val, want)
	} else {
		wantNotGot(t, l, tag, val)
	}
	return err == api.OK
}

// spelledAll tells all that some things have, their lists' spare room, too.
func spelledAll(l []any) string {
	var b []byte
	for _, x := range l {
		b = append(spelled(b, reflect.ValueOf(x)), '\n')
	}
	return string(b)
}

func spelled(b []byte, v reflect.Value) []byte {
	switch v.Kind() {
	case reflect.Slice:
		b = strconv.AppendInt(b, int64(v.Len()), 10)
		b = append(b, '/')
		b = strconv.AppendInt(b, int64(v.Cap()), 10)
		all := v.Slice(0, v.Cap())
		for i := range v.Cap() {
			b = append(spelled(append(b, '['), all.Index(i)), ']')
		}
	case reflect.Struct:
		for i := range v.NumField() {
			b = append(spelled(append(b, '{'), v.Field(i)), '}')
		}
	case reflect.String:
		b = strconv.AppendQuote(b, v.String())
	case reflect.Int:
		b = strconv.AppendInt(b, v.Int(), 10)
	default:
		b = strconv.AppendUint(b, v.Uint(), 10)
	}
	return b
}

// short tells the beginning of a thing.
func short(x any) string { return fmt.Sprintf("%.300s", fmt.Sprintf("%+v", x)) }
