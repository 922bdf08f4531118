package lex

import (
	"go/ast"
	"go/parser"
	"go/token"
	"testing"
)

// rangesOver tells whether a function goes over the text that it is given by a
// range, and takes its code points.
func rangesOver(f *ast.FuncDecl) bool {
	text := f.Type.Params.List[0].Names[0].Name
	found := false
	ast.Inspect(f.Body, func(n ast.Node) bool {
		if s, ok := n.(*ast.RangeStmt); ok {
			x, ok := s.X.(*ast.Ident)
			found = found || ok && x.Name == text && s.Value != nil
		}
		return true
	})
	return found
}

// takesRune tells whether a function's first argument is a rune.
func takesRune(f *ast.FuncDecl) bool {
	x, ok := f.Type.Params.List[0].Type.(*ast.Ident)
	return ok && x.Name == "rune"
}

// Ways: a text is gone over code point by code point (range-string, rune).
func TestWays(t *testing.T) {
	file, err := parser.ParseFile(token.NewFileSet(), "lex.go", nil, 0)
	if err != nil {
		t.Fatal(err)
	}
	wanted := map[string]func(*ast.FuncDecl) bool{"white": rangesOver, "run": rangesOver, "isBlank": takesRune}
	for _, d := range file.Decls {
		if f, ok := d.(*ast.FuncDecl); ok && wanted[f.Name.Name] != nil {
			if !wanted[f.Name.Name](f) {
				t.Errorf("%s does not go by code points", f.Name.Name)
			}
			delete(wanted, f.Name.Name)
		}
	}
	for name := range wanted {
		t.Errorf("no function %s", name)
	}
}
