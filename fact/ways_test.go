package fact

import (
	"go/ast"
	"go/parser"
	"go/token"
	"testing"
)

// Ways: values are laid one behind the other by a function with as many parts as
// there are. It goes over its parts, and Put hands it all that it lays of a fact.
func TestWays(t *testing.T) {
	f, err := parser.ParseFile(token.NewFileSet(), "fact.go", nil, 0)
	if err != nil {
		t.Fatal(err)
	}
	var put *ast.FuncDecl
	parts := map[string]string{} // of each function with as many parts as there are, their name
	bodies := map[string]*ast.BlockStmt{}
	for _, d := range f.Decls {
		x, ok := d.(*ast.FuncDecl)
		if !ok {
			continue
		}
		if x.Name.Name == "Put" {
			put = x
		}
		l := x.Type.Params.List
		if _, ok := l[len(l)-1].Type.(*ast.Ellipsis); ok {
			parts[x.Name.Name] = l[len(l)-1].Names[0].Name
			bodies[x.Name.Name] = x.Body
		}
	}
	name := variadicCall(put.Body, parts)
	if name == "" {
		t.Fatal("Put hands no list to a function with as many parts as there are")
	}
	if !rangesOver(bodies[name], parts[name]) {
		t.Errorf("%s does not go over its parts", name)
	}
}

// variadicCall tells which one of some functions a body hands a list of parts.
func variadicCall(b *ast.BlockStmt, of map[string]string) string {
	name := ""
	ast.Inspect(b, func(n ast.Node) bool {
		if c, ok := n.(*ast.CallExpr); ok && c.Ellipsis.IsValid() {
			if x, ok := c.Fun.(*ast.Ident); ok && of[x.Name] != "" {
				name = x.Name
			}
		}
		return true
	})
	return name
}

func rangesOver(b *ast.BlockStmt, name string) bool {
	found := false
	ast.Inspect(b, func(n ast.Node) bool {
		if r, ok := n.(*ast.RangeStmt); ok {
			x, ok := r.X.(*ast.Ident)
			found = found || ok && x.Name == name
		}
		return true
	})
	return found
}
