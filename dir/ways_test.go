package dir

import (
	"go/ast"
	"go/parser"
	"go/token"
	"testing"
)

// bodyNamed tells the body of a function of dir.go.
func bodyNamed(t *testing.T, name string) ast.Node {
	t.Helper()
	file, err := parser.ParseFile(token.NewFileSet(), "dir.go", nil, 0)
	if err != nil {
		t.Fatal(err)
	}
	for _, d := range file.Decls {
		if f, ok := d.(*ast.FuncDecl); ok && f.Name.Name == name {
			return f.Body
		}
	}
	t.Fatalf("no function %s", name)
	return nil
}

// Ways: slots are gone through by a range over an integer, and told once by a
// map.
func TestWays(t *testing.T) {
	maps, ranges := 0, 0
	ast.Inspect(bodyNamed(t, "IDs"), func(n ast.Node) bool {
		switch x := n.(type) {
		case *ast.MapType:
			maps++
		case *ast.RangeStmt:
			if call, ok := x.X.(*ast.CallExpr); ok {
				if f, ok := call.Fun.(*ast.Ident); ok && f.Name == "len" {
					ranges++
				}
			}
		}
		return true
	})
	if maps == 0 || ranges == 0 {
		t.Errorf("IDs has %d maps, and %d ranges over a length", maps, ranges)
	}
}
