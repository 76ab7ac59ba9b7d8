package hibernacle_test

import (
	"go/ast"
	"go/parser"
	"go/token"
	"go/types"
	"path/filepath"
	"slices"
	"strings"
	"testing"
)

// handedOn tells where a package's tables, that are its variables at package
// level, are used otherwise than on the spot: they may be asked for an item or
// their length, and gone over, and no more.
func handedOn(fset *token.FileSet, files []*ast.File) []string {
	info := &types.Info{Uses: map[*ast.Ident]types.Object{}}
	// What a file imports isn't asked: names of the package are known without.
	conf := types.Config{Error: func(error) {}}
	pack, _ := conf.Check("asked", fset, files, info)
	var found []string
	for _, file := range files {
		var around []ast.Node
		ast.Inspect(file, func(n ast.Node) bool {
			if n == nil {
				around = around[:len(around)-1]
				return true
			}
			if name, is := n.(*ast.Ident); is {
				v, is := info.Uses[name].(*types.Var)
				if is && v.Parent() == pack.Scope() && !onTheSpot(name, around) {
					found = append(found, fset.Position(name.Pos()).String()+": "+name.Name)
				}
			}
			around = append(around, n)
			return true
		})
	}
	return found
}

// onTheSpot tells whether a table is used on the spot, by what stands around its
// name, from the outermost on.
func onTheSpot(name *ast.Ident, around []ast.Node) bool {
	switch x := around[len(around)-1].(type) {
	case *ast.RangeStmt:
		return x.X == name
	case *ast.CallExpr:
		called, is := x.Fun.(*ast.Ident)
		return is && called.Name == "len"
	case *ast.IndexExpr:
		return x.X == name && isRead(x, around[:len(around)-1])
	}
	return false
}

// isRead tells whether an item, or a part of it, is read, and neither set, nor
// cut, nor its address taken.
func isRead(item ast.Expr, around []ast.Node) bool {
	for _, n := range slices.Backward(around) {
		switch x := n.(type) {
		case *ast.IndexExpr:
			if x.X != item {
				return true
			}
			item = x
		case *ast.SelectorExpr:
			item = x
		case *ast.SliceExpr:
			return x.X != item
		case *ast.UnaryExpr:
			return x.Op != token.AND
		case *ast.IncDecStmt:
			return false
		case *ast.AssignStmt:
			return !slices.Contains(x.Lhs, item)
		default:
			return true
		}
	}
	return true
}

// Tables at package level are read on the spot, in all packages.
func TestTables(t *testing.T) {
	paths, e := filepath.Glob("*/*.go")
	if e != nil || len(paths) == 0 {
		t.Fatal("no package:", e)
	}
	fset, packs := token.NewFileSet(), map[string][]*ast.File{}
	for _, path := range paths {
		if strings.HasSuffix(path, "_test.go") {
			continue
		}
		file, e := parser.ParseFile(fset, path, nil, 0)
		if e != nil {
			t.Fatal(e)
		}
		packs[filepath.Dir(path)] = append(packs[filepath.Dir(path)], file)
	}
	for _, files := range packs {
		for _, found := range handedOn(fset, files) {
			t.Error("a table isn't read on the spot:", found)
		}
	}
}

// The test itself finds what it is to find, and nothing else.
func TestTablesAreFound(t *testing.T) {
	for what, want := range map[string]int{
		"_ = table[1]":                     0,
		"_ = rows[0].a[2]":                 0,
		"_ = len(table)":                   0,
		"for range table {}":               0,
		"for _, x := range table { _ = x}": 0,
		"_ = list[table[0]:]":              0,
		"list[table[0]] = table[1]":        0,
		"table := list; _ = table[:]":      0,
		"_ = table[:]":                     1,
		"_ = rows[0].a[1:2]":               1,
		"_ = &table":                       1,
		"_ = &table[0]":                    1,
		"_ = &rows[0].a":                   1,
		"some(table)":                      1,
		"list = row":                       1,
		"for range some(table) {}":         1,
		"table[0] = 2":                     1,
		"rows[0].a[1]++":                   1,
		"table = [3]int{}":                 1,
	} {
		text := "package asked\nvar table = [...]int{1, 2, 3}\nvar row = []int{1}\nvar rows = [1]struct{a [3]int}{}\nfunc f(list []int) {" + what + "}\n"
		fset := token.NewFileSet()
		file, e := parser.ParseFile(fset, "asked.go", text, 0)
		if e != nil {
			t.Fatal(what, e)
		}
		if found := handedOn(fset, []*ast.File{file}); len(found) != want {
			t.Errorf("%s: %v", what, found)
		}
	}
}
