package test

import (
	"go/ast"
	"go/parser"
	"go/token"
	"testing"
)

// Ways: Match goes over a condition's attributes by a labelled loop, and leaves it early
// from within.
func TestWays(t *testing.T) {
	f, err := parser.ParseFile(token.NewFileSet(), "test.go", nil, 0)
	if err != nil {
		t.Fatal(err)
	}
	label, found := "", false
	for _, d := range f.Decls {
		if f, ok := d.(*ast.FuncDecl); ok && f.Name.Name == "Match" {
			ast.Inspect(f.Body, func(n ast.Node) bool {
				switch x := n.(type) {
				case *ast.LabeledStmt:
					if r, ok := x.Stmt.(*ast.RangeStmt); ok && overAttrs(r.X) {
						label = x.Label.Name
						found = found || leaves(r.Body, label)
					}
				}
				return true
			})
		}
	}
	if label == "" {
		t.Fatal("Match has no labelled loop over the attributes")
	}
	if !found {
		t.Error("it is not left by its label, from a loop within it")
	}
}

func overAttrs(e ast.Expr) bool {
	s, ok := e.(*ast.SelectorExpr)
	return ok && s.Sel.Name == "Attrs"
}

// leaves tells whether a loop within a body leaves the one of that label.
func leaves(body *ast.BlockStmt, label string) bool {
	found := false
	ast.Inspect(body, func(n ast.Node) bool {
		if r, ok := n.(*ast.RangeStmt); ok {
			ast.Inspect(r.Body, func(n ast.Node) bool {
				b, ok := n.(*ast.BranchStmt)
				found = found || ok && b.Tok == token.BREAK && b.Label != nil && b.Label.Name == label
				return true
			})
		}
		return true
	})
	return found
}
