package check

import (
	"go/ast"
	"go/parser"
	"go/token"
	"testing"
)

// Ways: names that were met are in a map, and whatever asks for names that were
// met asks it.
func TestWays(t *testing.T) {
	asks := map[string]bool{}
	for _, file := range []string{"check.go", "names.go", "scope.go"} {
		f, err := parser.ParseFile(token.NewFileSet(), file, nil, 0)
		if err != nil {
			t.Fatal(err)
		}
		for _, d := range f.Decls {
			look(d, asks)
		}
	}
	if !asks["type names"] {
		t.Error("names are no map")
	}
	for _, name := range []string{"Classes", "Program", "once", "tests", "expr", "sets", "cond"} {
		if !asks[name] {
			t.Errorf("%s has, or asks, no names that were met", name)
		}
	}
}

// look tells of a declaration whether it makes names a map, or asks such a map.
func look(d ast.Decl, asks map[string]bool) {
	if g, ok := d.(*ast.GenDecl); ok && g.Tok == token.TYPE {
		for _, s := range g.Specs {
			if s, ok := s.(*ast.TypeSpec); ok && s.Name.Name == "names" {
				_, asks["type names"] = s.Type.(*ast.MapType)
			}
		}
	}
	f, ok := d.(*ast.FuncDecl)
	if !ok {
		return
	}
	ast.Inspect(f.Body, func(n ast.Node) bool {
		if c, ok := n.(*ast.CompositeLit); ok {
			if x, ok := c.Type.(*ast.Ident); ok && x.Name == "names" {
				asks[f.Name.Name] = true
			}
		}
		if s, ok := n.(*ast.SelectorExpr); ok && (s.Sel.Name == "has" || s.Sel.Name == "add" || s.Sel.Name == "addAll") {
			asks[f.Name.Name] = true
		}
		return true
	})
}
