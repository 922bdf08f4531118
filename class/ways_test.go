package class

import (
	"go/ast"
	"go/parser"
	"go/token"
	"testing"
)

// Ways: sets ahead are looked through by a function value. It is made where a set's
// place is told, takes a set, and is handed to a search of the sets ahead, which are
// those that With cuts off.
func TestWays(t *testing.T) {
	f, err := parser.ParseFile(token.NewFileSet(), "class.go", nil, 0)
	if err != nil {
		t.Fatal(err)
	}
	bodies := map[string]*ast.BlockStmt{}
	for _, d := range f.Decls {
		if f, ok := d.(*ast.FuncDecl); ok {
			bodies[f.Name.Name] = f.Body
		}
	}
	value := ""
	ast.Inspect(bodies["place"], func(n ast.Node) bool {
		if a, ok := n.(*ast.AssignStmt); ok && len(a.Lhs) == 1 {
			if l, ok := a.Rhs[0].(*ast.FuncLit); ok && takesSet(l) {
				value = a.Lhs[0].(*ast.Ident).Name
			}
		}
		return true
	})
	if value == "" {
		t.Fatal("place makes no function value that takes a set")
	}
	if !calls(bodies["place"], "ContainsFunc", "ahead", value) {
		t.Error("sets ahead are not looked through by it")
	}
	if !calls(bodies["With"], "place") {
		t.Error("With does not ask for a set's place")
	}
}

func takesSet(l *ast.FuncLit) bool {
	s, ok := l.Type.Params.List[0].Type.(*ast.SelectorExpr)
	return ok && s.Sel.Name == "Bound"
}

// calls tells whether a body calls a function with these names as its arguments, if
// any are asked for.
func calls(b *ast.BlockStmt, name string, args ...string) bool {
	found := false
	ast.Inspect(b, func(n ast.Node) bool {
		c, ok := n.(*ast.CallExpr)
		if !ok || called(c.Fun) != name {
			return true
		}
		all := true
		for i, a := range args {
			x, ok := c.Args[i].(*ast.Ident)
			all = all && ok && x.Name == a
		}
		found = found || all
		return true
	})
	return found
}

func called(e ast.Expr) string {
	switch x := e.(type) {
	case *ast.Ident:
		return x.Name
	case *ast.SelectorExpr:
		return x.Sel.Name
	}
	return ""
}
