// Package rules holds the program's files against rules of ../shared/LANGUAGE.md
// that the compiler doesn't know. It has tests only.
package rules

import (
	"go/ast"
	"go/parser"
	"go/token"
	"go/types"
	"io/fs"
	"path/filepath"
	"slices"
	"strings"
	"testing"
)

// sources is a package's files, tests left out, and what their names stand for.
type sources struct {
	set   *token.FileSet
	files []*ast.File
	info  *types.Info
	scope *types.Scope
}

// none imports nothing: names of the package itself are found without it, and
// they are all that is asked for here.
type none struct{}

func (none) Import(path string) (*types.Package, error) {
	p := types.NewPackage(path, filepath.Base(path))
	p.MarkComplete()
	return p, nil
}

// read takes the files of one folder.
func read(t *testing.T, names []string) *sources {
	t.Helper()
	s := &sources{set: token.NewFileSet(), info: &types.Info{
		Uses:       map[*ast.Ident]types.Object{},
		Types:      map[ast.Expr]types.TypeAndValue{},
		Selections: map[*ast.SelectorExpr]*types.Selection{},
	}}
	for _, name := range names {
		f, err := parser.ParseFile(s.set, name, nil, parser.ParseComments)
		if err != nil {
			t.Fatal(err)
		}
		s.files = append(s.files, f)
	}
	conf := types.Config{Importer: none{}, Error: func(error) {}}
	p, _ := conf.Check(names[0], s.set, s.files, s.info)
	s.scope = p.Scope()
	return s
}

// folders: the files of each folder of the program.
func folders(t *testing.T) map[string][]string {
	t.Helper()
	found := map[string][]string{}
	err := filepath.WalkDir("..", func(path string, d fs.DirEntry, err error) error {
		if err == nil && strings.HasSuffix(path, ".go") && !strings.HasSuffix(path, "_test.go") {
			found[filepath.Dir(path)] = append(found[filepath.Dir(path)], path)
		}
		return err
	})
	if err != nil {
		t.Fatal(err)
	}
	return found
}

// kept is the package-level variable that x is, or is a piece of.
func (s *sources) kept(x ast.Expr) *types.Var {
	switch x := x.(type) {
	case *ast.Ident:
		if v, ok := s.info.Uses[x].(*types.Var); ok && v.Parent() == s.scope {
			return v
		}
	case *ast.ParenExpr:
		return s.kept(x.X)
	case *ast.SelectorExpr:
		return s.kept(x.X)
	case *ast.IndexExpr:
		return s.kept(x.X)
	case *ast.SliceExpr:
		return s.kept(x.X)
	}
	return nil
}

// touched: what of n is assigned, or has its address taken.
func (s *sources) touched(n ast.Node) []ast.Expr {
	switch n := n.(type) {
	case *ast.AssignStmt:
		return n.Lhs
	case *ast.IncDecStmt:
		return []ast.Expr{n.X}
	case *ast.RangeStmt:
		return []ast.Expr{n.Key, n.Value}
	case *ast.SliceExpr:
		if s.whole(n.X) {
			return []ast.Expr{n.X}
		}
	case *ast.UnaryExpr:
		if n.Op == token.AND {
			return []ast.Expr{n.X}
		}
	case *ast.SelectorExpr:
		if byAddress(s.info.Selections[n]) {
			return []ast.Expr{n.X}
		}
	}
	return nil
}

// whole tells if x is an array, of which a slice takes the address. What is
// not known, since it comes from elsewhere, is taken for one.
func (s *sources) whole(x ast.Expr) bool {
	of := s.info.TypeOf(x)
	if of == nil {
		return true
	}
	_, is := of.Underlying().(*types.Array)
	return is
}

// byAddress tells if a method takes the address of what it is called of.
func byAddress(of *types.Selection) bool {
	if of == nil || of.Kind() != types.MethodVal {
		return false
	}
	_, is := of.Obj().(*types.Func).Signature().Recv().Type().(*types.Pointer)
	return is
}

// ill tells what a value that is written out may not hold.
func ill(n ast.Node) bool {
	switch n := n.(type) {
	case *ast.CallExpr:
		of, ok := n.Fun.(*ast.SelectorExpr)
		return !ok || of.Sel.Name != "New"
	case *ast.UnaryExpr:
		return n.Op == token.AND
	case *ast.FuncLit, *ast.MapType:
		return true
	}
	return false
}

// Rules 3a, 3b: a package-level variable is written out where it is declared,
// and never touched from then on.
func TestPackageVariables(t *testing.T) {
	for _, names := range folders(t) {
		s := read(t, names)
		for _, f := range s.files {
			for _, d := range f.Decls {
				if g, ok := d.(*ast.GenDecl); ok && g.Tok == token.VAR {
					written(t, s, g)
				}
			}
			ast.Inspect(f, func(n ast.Node) bool {
				for _, x := range s.touched(n) {
					if v := s.kept(x); v != nil {
						t.Errorf("rule 3a: %v: %s is assigned, or its address taken", s.set.Position(n.Pos()), v.Name())
					}
				}
				return true
			})
		}
	}
}

func written(t *testing.T, s *sources, g *ast.GenDecl) {
	t.Helper()
	for _, spec := range g.Specs {
		v := spec.(*ast.ValueSpec)
		if len(v.Values) != len(v.Names) {
			t.Errorf("rule 3b: %v: no value of its own", s.set.Position(v.Pos()))
		}
		for _, x := range v.Values {
			ast.Inspect(x, func(n ast.Node) bool {
				if ill(n) {
					t.Errorf("rule 3b: %v: not a value that is written out", s.set.Position(n.Pos()))
				}
				return true
			})
		}
	}
}

// library is what may be imported beside the project's own packages.
var library = []string{"bytes", "cmp", "container/heap", "errors", "iter", "maps", "math", "math/bits", "slices",
	"sort", "strconv", "strings", "sync", "sync/atomic", "unicode", "unicode/utf8"}

// Rules 1, 2, 9: imports, remarks to the compiler, long functions.
func TestFiles(t *testing.T) {
	for _, names := range folders(t) {
		s := read(t, names)
		for _, f := range s.files {
			for _, i := range f.Imports {
				path := strings.Trim(i.Path.Value, "\"")
				if !strings.HasPrefix(path, "zoetrope/") && !slices.Contains(library, path) {
					t.Errorf("rule 1: %v: %s", s.set.Position(i.Pos()), path)
				}
			}
			for _, c := range f.Comments {
				if strings.HasPrefix(c.List[0].Text, "//go:") {
					t.Errorf("rule 2: %v", s.set.Position(c.Pos()))
				}
			}
			for _, d := range f.Decls {
				if lines := s.set.Position(d.End()).Line - s.set.Position(d.Pos()).Line; isFunc(d) && lines > 60 {
					t.Errorf("rule 9: %v: %d lines", s.set.Position(d.Pos()), lines)
				}
			}
		}
	}
}

func isFunc(d ast.Decl) bool {
	_, ok := d.(*ast.FuncDecl)
	return ok
}
