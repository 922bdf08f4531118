package show

import (
	"go/ast"
	"go/parser"
	"go/token"
	"slices"
	"strings"
	"testing"
)

// funcs are the program's functions, by their names.
func funcs(t *testing.T) map[string]*ast.FuncDecl {
	t.Helper()
	m := map[string]*ast.FuncDecl{}
	for _, file := range []string{"show.go", "lay.go", "expr.go"} {
		f, err := parser.ParseFile(token.NewFileSet(), file, nil, 0)
		if err != nil {
			t.Fatal(err)
		}
		for _, d := range f.Decls {
			if f, ok := d.(*ast.FuncDecl); ok {
				m[f.Name.Name] = f
			}
		}
	}
	return m
}

// named tells whether an expression is one of some names.
func named(e ast.Expr, names ...string) bool {
	x, ok := e.(*ast.Ident)
	return ok && slices.Contains(names, x.Name)
}

// handsOn tells whether a function calls one of some names, and hands something
// as asked on to it.
func handsOn(f *ast.FuncDecl, asked func(ast.Expr) bool, names ...string) bool {
	found := false
	ast.Inspect(f, func(n ast.Node) bool {
		if c, ok := n.(*ast.CallExpr); ok && named(c.Fun, names...) {
			found = found || slices.ContainsFunc(c.Args, asked)
		}
		return true
	})
	return found
}

// Ways: texts are put together by functions that are handed on.
func TestWays(t *testing.T) {
	all := funcs(t)
	literal := func(e ast.Expr) bool {
		_, ok := e.(*ast.FuncLit)
		return ok
	}
	if !handsOn(all["told"], literal, "lay") {
		t.Error("told hands no function on that lays a text")
	}
	for _, name := range strings.Fields("Expr Test Cond Act Rule Text") {
		part := func(e ast.Expr) bool {
			return named(e, "expr", "attrTest", "cond", "act", "rule", "program")
		}
		if !handsOn(all[name], part, "told") {
			t.Errorf("%s tells no text by a part's function", name)
		}
	}
	for _, name := range strings.Fields("program class rule cond attrTest test act set") {
		put := func(e ast.Expr) bool { return named(e, "put") }
		if !handsOn(all[name], put, "each", "class", "rule", "cond", "attrTest", "variable", "val", "expr") {
			t.Errorf("%s does not hand on what lays its text", name)
		}
	}
}
