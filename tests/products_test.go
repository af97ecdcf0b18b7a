package tests

import (
	"go/ast"
	"go/importer"
	"go/parser"
	"go/token"
	"go/types"
	"path/filepath"
	"strings"
	"testing"
)

// A machine may join a product with the sum behind it, and then round only once.
// Not every machine does, so that the results do not show it on each: this test reads the program instead.
func TestProductsAreConverted(t *testing.T) {
	fset := token.NewFileSet()
	names, err := filepath.Glob("../impl/*.go")
	if err != nil || len(names) == 0 {
		t.Fatal("there is no program", err)
	}
	var files []*ast.File
	for _, name := range names {
		if strings.HasSuffix(name, "_test.go") {
			continue
		}
		file, err := parser.ParseFile(fset, name, nil, 0)
		if err != nil {
			t.Fatal(err)
		}
		files = append(files, file)
	}
	info := &types.Info{Types: map[ast.Expr]types.TypeAndValue{}}
	config := types.Config{Importer: importer.ForCompiler(fset, "source", nil)}
	if _, err := config.Check("impl", fset, files, info); err != nil {
		t.Fatal(err)
	}
	for _, file := range files {
		for _, at := range bareProducts(file, info) {
			t.Errorf("%s: this product is not converted", fset.Position(at))
		}
	}
}

// bareProducts finds the products of floats that are neither converted nor multiplied or divided further.
func bareProducts(file *ast.File, info *types.Info) []token.Pos {
	var bare []token.Pos
	covered := map[ast.Expr]bool{}
	ast.Inspect(file, func(n ast.Node) bool {
		switch x := n.(type) {
		case *ast.CallExpr:
			if info.Types[x.Fun].IsType() {
				covered[ast.Unparen(x.Args[0])] = true
			}
		case *ast.BinaryExpr:
			if x.Op == token.MUL || x.Op == token.QUO {
				covered[ast.Unparen(x.X)], covered[ast.Unparen(x.Y)] = true, true
			}
			if x.Op == token.MUL && isFloat(x, info) && !covered[x] {
				bare = append(bare, x.Pos())
			}
		case *ast.AssignStmt:
			if x.Tok == token.MUL_ASSIGN && isFloat(x.Lhs[0], info) {
				bare = append(bare, x.Pos())
			}
		}
		return true
	})
	return bare
}

// isFloat reports whether an expression is a float that is no constant.
func isFloat(x ast.Expr, info *types.Info) bool {
	kind := info.Types[x]
	if kind.Type == nil || kind.Value != nil {
		return false
	}
	basic, ok := kind.Type.Underlying().(*types.Basic)
	return ok && basic.Info()&types.IsFloat != 0
}
