package parse

import (
	"math"
	"reflect"
	"testing"

	"intarsia/api"
)

// full is a program in which each list has two or more, and each field of each
// part is laid.
func full() api.Program {
	v := func(k uint8) api.Value { return api.Value{Kind: k, N: int(k) + 1, S: "s"} }
	item := func(k uint8) api.Item { return api.Item{Kind: k, Val: v(k), Var: "v"} }
	expr := func(k uint8) []api.Item { return items(item(k), item(k+1)) }
	set := func(k uint8) api.Set { return api.Set{Attr: "t", Expr: expr(k)} }
	test := func(k uint8) api.Test { return api.Test{Pred: k, Var: "w", Val: v(k)} }
	attr := func(k uint8) api.AttrTest {
		return api.AttrTest{Attr: "u", Ones: []api.Value{v(k), v(k + 1)}, Tests: []api.Test{test(k), test(k + 1)}}
	}
	cond := func(k uint8) api.Cond {
		return api.Cond{Neg: k == 1, Class: "c", Attrs: []api.AttrTest{attr(k), attr(k + 1)}}
	}
	act := func(k uint8) api.Act {
		return api.Act{Kind: k, Class: "d", N: 3, Var: "x", Sets: []api.Set{set(k), set(k + 1)}, Exprs: [][]api.Item{expr(k), expr(k + 1)}}
	}
	rule := func(k uint8) api.Rule {
		return api.Rule{Name: "r", Conds: conds(cond(k), cond(k+1)), Acts: acts(act(k), act(k+1))}
	}
	return api.Program{Classes: []api.Class{class("a", "b", "e"), class("f", "g", "h", "i")}, Rules: []api.Rule{rule(1), rule(2)}}
}

// eachPart goes through all lists and fields of a thing, and all of what is in
// them.
func eachPart(v reflect.Value, visit func(reflect.Value)) {
	switch v.Kind() {
	case reflect.Struct:
		for i := range v.NumField() {
			eachPart(v.Field(i), visit)
		}
		return
	case reflect.Slice:
		for i := range v.Len() {
			eachPart(v.Index(i), visit)
		}
	}
	visit(v)
}

// others tells what else may stand in a field's place.
func others(v reflect.Value) []reflect.Value {
	as := func(x any) reflect.Value { return reflect.ValueOf(x).Convert(v.Type()) }
	switch v.Kind() {
	case reflect.Bool:
		return []reflect.Value{as(!v.Bool())}
	case reflect.String:
		return []reflect.Value{as(""), as(v.String() + "\x00"), as(" "), as("S")}
	case reflect.Int:
		return []reflect.Value{as(0), as(-v.Int()), as(v.Int() + 1<<32), as(v.Int() ^ math.MinInt64)}
	case reflect.Uint8:
		return []reflect.Value{as(255), as(v.Uint() ^ 128), as(v.Uint() + 1)}
	}
	n := v.Len()
	longer := reflect.MakeSlice(v.Type(), n+1, n+1)
	reflect.Copy(longer, v)
	ahead := reflect.MakeSlice(v.Type(), n+1, n+1)
	reflect.Copy(ahead.Slice(1, n+1), v)
	turned := reflect.MakeSlice(v.Type(), n, n)
	for i := range n {
		turned.Index(i).Set(v.Index(n - 1 - i))
	}
	return []reflect.Value{reflect.Zero(v.Type()), v.Slice(0, n-1), v.Slice(1, n), longer, ahead, turned}
}

func wantSame(t *testing.T, a, b api.Program, want bool) {
	t.Helper()
	if Same(a, b) != want || Same(b, a) != want || !Same(a, a) || !Same(b, b) {
		t.Errorf("Same(%+v, %+v) = %v, %v; want %v", a, b, Same(a, b), Same(b, a), want)
	}
}

// P15.2: programs that differ in one field, or one list, of any part.
func TestSameFields(t *testing.T) {
	a, b := full(), full()
	wantSame(t, a, b, true)
	tried := 0
	eachPart(reflect.ValueOf(&b).Elem(), func(v reflect.Value) {
		was := reflect.ValueOf(v.Interface())
		for _, other := range others(was) {
			v.Set(other)
			wantSame(t, a, b, false)
			tried++
		}
		v.Set(was)
		wantSame(t, a, b, true)
	})
	if tried < 1000 {
		t.Errorf("%d", tried)
	}
}

// emptied lays empty lists where there are none.
func emptied(p *api.Program) {
	eachPart(reflect.ValueOf(p).Elem(), func(v reflect.Value) {
		if v.Kind() == reflect.Slice && v.Len() == 0 {
			v.Set(reflect.MakeSlice(v.Type(), 0, 3))
		}
	})
}

// withoutSome are programs in which some lists have nothing.
func withoutSome() []api.Program {
	return []api.Program{{}, classes(class("a")), classes(class("a", "b")), rules(rule("r", nil, nil)), rules(rule("r", conds(cond("a"), negated("b", tests("c"))), nil)),
		actingProgram(madeOf("a", set("b")), modify(1), write(), write(nil), bind("x"), halt())}
}

// P15.2: empty lists and nil are the same.
func TestSameEmpty(t *testing.T) {
	for i := range withoutSome() {
		b := withoutSome()[i]
		emptied(&b)
		for k, a := range withoutSome() {
			wantSame(t, a, b, i == k)
		}
	}
}

// P15.2: lists that the one has longer, or in another place.
func TestSameLists(t *testing.T) {
	wantSame(t, classes(class("a", "b")), classes(class("a"), class("b")), false)
	wantSame(t, classes(class("a", "b", "c")), classes(class("a", "bc")), false)
	wantSame(t, classes(class("a", "b")), classes(class("a", "b"), class("a", "b")), false)
	x := items(constant(num(1)))
	wantSame(t, actingProgram(write(x, x)), actingProgram(write(append(items(), x[0], x[0]))), false)
	wantSame(t, actingProgram(write(x)), actingProgram(write(x, nil)), false)
	wantSame(t, actingProgram(write(nil)), actingProgram(write()), false)
	wantSame(t, askedProgram(one("b", num(1))), askedProgram(tests("b", ofVal(0, num(1)))), false)
	wantSame(t, classes(class("a", "b")), rules(rule("a", nil, nil)), false)
}

// P15.2: no program is changed by being asked.
func TestSameLeaves(t *testing.T) {
	a, b := full(), full()
	Same(a, b)
	if !samePrograms(a, full()) || !samePrograms(b, full()) {
		t.Error("changed")
	}
}
