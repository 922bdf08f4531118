package parse

import (
	"slices"

	"intarsia/api"
)

// Same tells whether two programs are one.
func Same(a, b api.Program) bool {
	return slices.EqualFunc(a.Classes, b.Classes, sameClass) && slices.EqualFunc(a.Rules, b.Rules, sameRule)
}

func sameClass(a, b api.Class) bool {
	return a.Name == b.Name && slices.Equal(a.Attrs, b.Attrs)
}

func sameRule(a, b api.Rule) bool {
	return a.Name == b.Name && slices.EqualFunc(a.Conds, b.Conds, sameCond) && slices.EqualFunc(a.Acts, b.Acts, sameAct)
}

func sameCond(a, b api.Cond) bool {
	return a.Neg == b.Neg && a.Class == b.Class && slices.EqualFunc(a.Attrs, b.Attrs, sameAttrTest)
}

func sameAttrTest(a, b api.AttrTest) bool {
	return a.Attr == b.Attr && slices.Equal(a.Ones, b.Ones) && slices.Equal(a.Tests, b.Tests)
}

func sameAct(a, b api.Act) bool {
	return a.Kind == b.Kind && a.Class == b.Class && a.N == b.N && a.Var == b.Var &&
		slices.EqualFunc(a.Sets, b.Sets, sameSet) && slices.EqualFunc(a.Exprs, b.Exprs, sameExpr)
}

func sameSet(a, b api.Set) bool {
	return a.Attr == b.Attr && sameExpr(a.Expr, b.Expr)
}

func sameExpr(a, b []api.Item) bool { return slices.Equal(a, b) }
