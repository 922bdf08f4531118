package check

import (
	"testing"

	"intarsia/api"
)

// P17.4: no items, constants, signs, and variables that are bound, or not.
func TestExpr(t *testing.T) {
	one := api.Item{Val: api.Value{Kind: 1, N: 1}}
	plus := api.Item{Kind: 2}
	for _, bound := range []string{"", "x", "y x"} {
		wantExpr(t, nil, bound, api.OK)
		wantExpr(t, items(), bound, api.OK)
		wantExpr(t, items(one), bound, api.OK)
		wantExpr(t, items(one, one, plus), bound, api.OK)
		wantExpr(t, items(variable("z")), bound, api.ErrVar)
		wantExpr(t, items(one, variable("z"), plus), bound, api.ErrVar)
		wantExpr(t, items(variable("X")), bound, api.ErrVar)
	}
	wantExpr(t, items(variable("x")), "x", api.OK)
	wantExpr(t, items(variable("x")), "x x", api.OK)
	wantExpr(t, items(variable("x"), variable("y"), plus), "y x", api.OK)
	wantExpr(t, items(variable("x"), variable("y"), plus), "x", api.ErrVar)
	wantExpr(t, items(variable("x"), variable("y"), plus), "y", api.ErrVar)
	wantExpr(t, items(variable("y"), one, plus, variable("x"), plus), "x z", api.ErrVar)
	wantExpr(t, items(variable("x"), one, plus, variable("y"), plus), "x z", api.ErrVar)
}

// P17.4: a Var asks for a variable of a Variable alone, whatever else an item
// has, and whether it is an expression or not.
func TestExprKinds(t *testing.T) {
	for kind := range 256 {
		want := api.OK
		if kind == 1 {
			want = api.ErrVar
		}
		x := api.Item{Kind: uint8(kind), Var: "z", Val: api.Value{Kind: 7, N: 3, S: "z"}}
		wantExpr(t, items(x), "", want)
		wantExpr(t, items(x), "x", want)
		wantExpr(t, items(x), "z", api.OK)
		wantExpr(t, items(api.Item{Kind: uint8(kind)}, x, x), "y", want)
	}
	wantExpr(t, items(api.Item{Kind: 2}, api.Item{Kind: 3}, variable("x")), "x", api.OK)
}

// P17.4: a Variable of an empty name is bound where the empty name is.
func TestExprEmptyVar(t *testing.T) {
	l := items(variable(""))
	for _, bound := range [][]string{nil, {"x"}, {" "}} {
		wantErr(t, "Expr", Expr(l, bound), exprErr(l, bound), api.ErrVar, bound)
	}
	for _, bound := range [][]string{{""}, {"x", "", "x"}, {"", ""}} {
		wantErr(t, "Expr", Expr(l, bound), exprErr(l, bound), api.OK, bound)
	}
}
