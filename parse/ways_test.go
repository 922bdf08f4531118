package parse

import (
	"go/ast"
	"go/parser"
	"go/token"
	"testing"
)

// bodies are the bodies of a file's functions, by their names.
func bodies(t *testing.T, file string) map[string]*ast.BlockStmt {
	t.Helper()
	f, err := parser.ParseFile(token.NewFileSet(), file, nil, 0)
	if err != nil {
		t.Fatal(err)
	}
	m := map[string]*ast.BlockStmt{}
	for _, d := range f.Decls {
		if f, ok := d.(*ast.FuncDecl); ok {
			m[f.Name.Name] = f.Body
		}
	}
	return m
}

// has tells whether something within a part of the program is as asked.
func has(n ast.Node, asked func(ast.Node) bool) bool {
	found := false
	ast.Inspect(n, func(n ast.Node) bool {
		found = found || n != nil && asked(n)
		return true
	})
	return found
}

// calls asks for a call of a function by its name.
func calls(name string) func(ast.Node) bool {
	return func(n ast.Node) bool {
		c, ok := n.(*ast.CallExpr)
		if !ok {
			return false
		}
		f, ok := c.Fun.(*ast.Ident)
		return ok && f.Name == name
	}
}

// assertsFault asks for a type assertion with two values that tells a fault.
func assertsFault(n ast.Node) bool {
	s, ok := n.(*ast.AssignStmt)
	if !ok || len(s.Lhs) != 2 || len(s.Rhs) != 1 {
		return false
	}
	a, ok := s.Rhs[0].(*ast.TypeAssertExpr)
	if !ok {
		return false
	}
	of, ok := a.Type.(*ast.Ident)
	return ok && of.Name == "fault"
}

// recovers asks for a deferred function literal that recovers, and tells what it
// recovered by a type assertion with two values.
func recovers(n ast.Node) bool {
	d, ok := n.(*ast.DeferStmt)
	if !ok {
		return false
	}
	f, ok := d.Call.Fun.(*ast.FuncLit)
	return ok && has(f, calls("recover")) && has(f, assertsFault)
}

// Ways: a fault is given up by a panic and recovered, and told by a type
// assertion with two values.
func TestWays(t *testing.T) {
	grammar, reader := bodies(t, "parse.go"), bodies(t, "reader.go")
	if !has(grammar["read"], recovers) {
		t.Error("read does not recover by a deferred assertion")
	}
	for name, body := range map[string]ast.Node{"program": grammar["program"], "act": grammar["act"], "sign": grammar["sign"], "kept": reader["kept"], "take": reader["take"], "valOf": reader["valOf"], "some": reader["some"]} {
		if !has(body, calls("panic")) {
			t.Errorf("%s does not give a fault up by a panic", name)
		}
	}
}
