package show

import (
	"math/rand"
	"reflect"
	"strconv"
	"testing"

	"intarsia/api"
)

// drawer draws programs, also such as may not be. Its lists have spare room with
// something in it.
type drawer struct{ *rand.Rand }

// some draws up to so many parts, and parts more in the spare room.
func some[T any](d drawer, most int, part func() T) []T {
	var l []T
	n := d.Intn(most + 1)
	for range n + d.Intn(2) {
		l = append(l, part())
	}
	return l[:n]
}

func (d drawer) name() string {
	l := []string{"a", "b", "c-d", "", "nil", "-", "p", "12", "a b", "\xff", "-->", "é", "(", "abcdefghijklmnopqrstuvwxyz"}
	return l[d.Intn(len(l))]
}

func (d drawer) number() int {
	return []int{0, 1, -1, d.Intn(200) - 100, most, -most, most + 1, -1 << 63, 1<<63 - 1}[d.Intn(9)]
}

func (d drawer) value() api.Value {
	switch d.Intn(4) {
	case 0:
		return api.Value{Kind: uint8(d.Intn(5)), N: d.number() * d.Intn(2), S: d.name()}
	case 1:
		return sym(d.name())
	case 2:
		return api.Value{}
	}
	return num(d.number())
}

// kind draws a kind, one that is none now and then.
func (d drawer) kind(kinds int) uint8 {
	if d.Intn(20) == 0 {
		return uint8(kinds + d.Intn(256-kinds))
	}
	return uint8(d.Intn(kinds))
}

func (d drawer) item() api.Item {
	return api.Item{Kind: d.kind(5), Val: d.value(), Var: d.name()}
}

// expr draws items: an expression mostly, and else any.
func (d drawer) expr() []api.Item {
	if d.Intn(4) == 0 {
		return some(d, 5, d.item)
	}
	var l []api.Item
	for n := 0; n != 1 || d.Intn(2) == 0; {
		x := d.item()
		switch {
		case x.Kind < 2 && n < 6:
			n++
		case x.Kind > 1 && x.Kind < 5 && n > 1:
			n--
		default:
			continue
		}
		l = append(l, x)
	}
	return l
}

func (d drawer) test() api.Test {
	return api.Test{Pred: d.kind(6), Var: []string{"", "x", d.name()}[d.Intn(3)], Val: d.value()}
}

func (d drawer) attrTest() api.AttrTest {
	return api.AttrTest{Attr: d.name(), Ones: some(d, 3*d.Intn(2), d.value), Tests: some(d, 3, d.test)}
}

func (d drawer) cond() api.Cond {
	return api.Cond{Neg: d.Intn(2) == 0, Class: d.name(), Attrs: some(d, 3, d.attrTest)}
}

func (d drawer) set() api.Set { return api.Set{Attr: d.name(), Expr: d.expr()} }

func (d drawer) act() api.Act {
	return api.Act{Kind: d.kind(6), Class: d.name(), N: d.number(), Var: d.name(), Sets: some(d, 3, d.set), Exprs: some(d, 3, d.expr)}
}

func (d drawer) rule() api.Rule {
	return api.Rule{Name: d.name(), Conds: some(d, 3, d.cond), Acts: some(d, 3, d.act)}
}

func (d drawer) class() api.Class {
	return api.Class{Name: d.name(), Attrs: some(d, 3, d.name)}
}

func (d drawer) program() api.Program {
	return api.Program{Classes: some(d, 3, d.class), Rules: some(d, 3, d.rule)}
}

// spelled tells all that a thing has, its lists' spare room, too.
func spelled(v reflect.Value) string {
	s := ""
	switch v.Kind() {
	case reflect.Slice:
		s += strconv.Itoa(v.Len()) + "/" + strconv.Itoa(v.Cap())
		for i := range v.Cap() {
			s += "[" + spelled(v.Slice(0, v.Cap()).Index(i)) + "]"
		}
	case reflect.Struct:
		for i := range v.NumField() {
			s += "{" + spelled(v.Field(i)) + "}"
		}
	case reflect.String:
		s += strconv.Quote(v.String())
	case reflect.Bool:
		s += strconv.FormatBool(v.Bool())
	case reflect.Int:
		s += strconv.FormatInt(v.Int(), 10)
	default:
		s += strconv.FormatUint(v.Uint(), 10)
	}
	return s
}

// wantDrawn asks, of drawn things, that their text is as the chapter's words
// tell it, twice, and that they stay as they are.
func wantDrawn[T any](t *testing.T, some int, draw func() T, tells, own func(T) string) {
	t.Helper()
	for range some {
		x := draw()
		was, want := spelled(reflect.ValueOf(x)), own(x)
		for range 2 {
			if s := tells(x); s != want {
				t.Fatalf("%s: %q; want %q", was, s, want)
			}
		}
		if is := spelled(reflect.ValueOf(x)); is != was {
			t.Fatalf("%s is changed: %s", was, is)
		}
	}
}

// P16.1 to P16.4, and rules 1 and 3: whatever the arguments are, no call panics,
// changes them, or tells another text.
func TestDrawn(t *testing.T) {
	d := drawer{rand.New(rand.NewSource(161))}
	wantDrawn(t, 20000, d.expr, func(l []api.Item) string {
		s, ok := Expr(l)
		if _, is := pileText(l); ok != is {
			t.Fatalf("Expr(%s) tells %v", short(l), ok)
		}
		return s
	}, exprText)
	wantDrawn(t, 10000, d.attrTest, Test, testText)
	wantDrawn(t, 5000, d.cond, Cond, condText)
	wantDrawn(t, 5000, d.act, Act, actText)
	wantDrawn(t, 1000, d.rule, Rule, ruleText)
	wantDrawn(t, 1000, d.program, Text, programText)
}
