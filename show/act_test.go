package show

import (
	"strconv"
	"testing"

	"intarsia/api"
)

// filled is an act with all fields that an act has.
func filled(kind uint8) api.Act {
	return api.Act{
		Kind: kind, Class: "k", N: 7, Var: "v",
		Sets:  []api.Set{setOf("b", number(1)), setOf("c", variableOf("x"), number(2), op(2))},
		Exprs: [][]api.Item{items(number(3)), items(variableOf("y"), number(4), op(4))},
	}
}

// P16.3: each kind with all fields filled: those that its kind hasn't have no
// text.
func TestFilledActs(t *testing.T) {
	for kind, want := range map[uint8]string{
		api.Make:   "(make k ^b 1 ^c (+ <x> 2))",
		api.Modify: "(modify 7 ^b 1 ^c (+ <x> 2))",
		api.Remove: "(remove 7)",
		api.Bind:   "(bind <v> 3 (* <y> 4))",
		api.Write:  "(write 3 (* <y> 4))",
		api.Halt:   "(halt)",
	} {
		wantAct(t, filled(kind), want)
	}
}

// P16.3: each kind with no field filled.
func TestEmptyActs(t *testing.T) {
	for kind, want := range []string{"(make )", "(modify 0)", "(remove 0)", "(bind <>)", "(write)", "(halt)"} {
		wantAct(t, api.Act{Kind: uint8(kind)}, want)
		wantAct(t, api.Act{Kind: uint8(kind), Sets: []api.Set{}, Exprs: [][]api.Item{}}, want)
	}
}

// P16.3: nothing of other kinds, whatever their fields are.
func TestOtherActs(t *testing.T) {
	for kind := 6; kind < 256; kind++ {
		wantAct(t, api.Act{Kind: uint8(kind)}, "")
		wantAct(t, filled(uint8(kind)), "")
	}
}

// P16.3: N's digits.
func TestN(t *testing.T) {
	for _, n := range []int{0, 1, -1, 5, 10, 99, -12, 128, most, -most, most + 1, -most - 1, 1<<63 - 1, -1 << 63} {
		digits := strconv.Itoa(n)
		wantAct(t, api.Act{Kind: 1, N: n}, "(modify "+digits+")")
		wantAct(t, api.Act{Kind: 1, N: n, Sets: []api.Set{setOf("b", number(n))}}, "(modify "+digits+" ^b "+exprText(items(number(n)))+")")
		wantAct(t, api.Act{Kind: 2, N: n}, "(remove "+digits+")")
	}
	wantAct(t, api.Act{Kind: 2, N: most + 1}, "(remove 1099511627777)")
	wantAct(t, api.Act{Kind: 1, N: -1 << 63}, "(modify -9223372036854775808)")
}

// P16.3: a Class and a Var stand as they are.
func TestNamesOfActs(t *testing.T) {
	for _, s := range []string{"", "k", "12", "nil", "a b", "<", "\xff"} {
		wantAct(t, api.Act{Kind: 0, Class: s, Sets: []api.Set{setOf("b", number(1))}}, "(make "+s+" ^b 1)")
		wantAct(t, api.Act{Kind: 3, Var: s, Exprs: [][]api.Item{items(number(1))}}, "(bind <"+s+"> 1)")
		wantAct(t, api.Act{Kind: 1, N: 2, Sets: []api.Set{setOf(s, number(1))}}, "(modify 2 ^"+s+" 1)")
	}
}

// P16.3: sets: none, one, several; of one without an expression all but that.
func TestSets(t *testing.T) {
	one := setOf("b", number(1))
	sum := setOf("c", variableOf("x"), number(-2), op(3))
	for kind, ahead := range []string{"(make k", "(modify 7"} {
		of := func(l ...api.Set) api.Act {
			return api.Act{Kind: uint8(kind), Class: "k", N: 7, Sets: l}
		}
		wantAct(t, of(), ahead+")")
		wantAct(t, of(one), ahead+" ^b 1)")
		wantAct(t, of(one, one), ahead+" ^b 1 ^b 1)")
		wantAct(t, of(sum, one), ahead+" ^c (- <x> -2) ^b 1)")
		wantAct(t, of(one, sum, sum, one), ahead+" ^b 1 ^c (- <x> -2) ^c (- <x> -2) ^b 1)")
		wantAct(t, of(setOf("", constant(api.Value{}))), ahead+" ^ nil)")
		wantAct(t, of(api.Set{}), ahead+" ^ )")
		for _, l := range noExprs() {
			wantAct(t, of(setOf("b", l...)), ahead+" ^b )")
			wantAct(t, of(setOf("b", l...), one), ahead+" ^b  ^b 1)")
			wantAct(t, of(sum, setOf("b", l...)), ahead+" ^c (- <x> -2) ^b )")
		}
	}
}

// noExprs are items that have no text.
func noExprs() [][]api.Item {
	return [][]api.Item{
		nil, {}, items(op(2)), items(number(1), op(4)), items(number(1), number(2)), items(op(5)),
		items(number(1), op(255)), items(op(255), number(1)), items(number(1), number(2), op(2), op(3)),
	}
}

// P16.3: expressions: none, one, several; of one that is none its blank.
func TestExprs(t *testing.T) {
	one := items(number(1))
	product := items(variableOf("x"), number(-2), op(4))
	for kind, ahead := range map[uint8]string{3: "(bind <v>", 4: "(write"} {
		of := func(l ...[]api.Item) api.Act { return api.Act{Kind: kind, Var: "v", Exprs: l} }
		wantAct(t, of(), ahead+")")
		wantAct(t, of(one), ahead+" 1)")
		wantAct(t, of(one, one), ahead+" 1 1)")
		wantAct(t, of(product, one), ahead+" (* <x> -2) 1)")
		wantAct(t, of(one, product, product), ahead+" 1 (* <x> -2) (* <x> -2))")
		for _, l := range noExprs() {
			wantAct(t, of(l), ahead+" )")
			wantAct(t, of(l, one), ahead+"  1)")
			wantAct(t, of(product, l), ahead+" (* <x> -2) )")
			wantAct(t, of(l, l, l), ahead+"   )")
		}
	}
}

// P16.3: values that may not be, as value.Text tells them.
func TestNoValuesLaid(t *testing.T) {
	for _, v := range noValues() {
		wantAct(t, api.Act{Kind: 0, Class: "k", Sets: []api.Set{setOf("b", constant(v))}}, "(make k ^b nil)")
		wantAct(t, api.Act{Kind: 4, Exprs: [][]api.Item{items(constant(v)), items(number(1), constant(v), op(2))}}, "(write nil (+ 1 nil))")
	}
}
