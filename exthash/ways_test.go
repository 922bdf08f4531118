package exthash

import (
	"go/ast"
	"go/parser"
	"go/token"
	"testing"
)

// bodyNamed tells the body of a function of step.go.
func bodyNamed(t *testing.T, name string) ast.Node {
	t.Helper()
	file, err := parser.ParseFile(token.NewFileSet(), "step.go", nil, 0)
	if err != nil {
		t.Fatal(err)
	}
	for _, d := range file.Decls {
		if f, ok := d.(*ast.FuncDecl); ok && f.Name.Name == name {
			return f.Body
		}
	}
	t.Fatalf("no function %s", name)
	return nil
}

// recovers tells whether a deferred function literal recovers, and tells what
// it recovered by a type switch.
func recovers(n ast.Node) bool {
	found := false
	ast.Inspect(n, func(n ast.Node) bool {
		d, ok := n.(*ast.DeferStmt)
		if !ok {
			return true
		}
		if f, ok := d.Call.Fun.(*ast.FuncLit); ok {
			ast.Inspect(f, func(n ast.Node) bool {
				if s, ok := n.(*ast.TypeSwitchStmt); ok {
					found = found || callsBy(s.Assign, "recover")
				}
				return true
			})
		}
		return true
	})
	return found
}

// callsBy tells whether a function is called by its name.
func callsBy(n ast.Node, name string) bool {
	found := false
	ast.Inspect(n, func(n ast.Node) bool {
		if c, ok := n.(*ast.CallExpr); ok {
			f, ok := c.Fun.(*ast.Ident)
			found = found || ok && f.Name == name
		}
		return true
	})
	return found
}

// Ways: a step that goes wrong is given up by a panic, which a deferred
// function recovers, and tells by a type switch.
func TestWays(t *testing.T) {
	if !recovers(bodyNamed(t, "attempt")) {
		t.Error("attempt does not recover by a deferred type switch")
	}
	for _, name := range []string{"must", "sound"} {
		if !callsBy(bodyNamed(t, name), "panic") {
			t.Errorf("%s does not give a step up by a panic", name)
		}
	}
}
