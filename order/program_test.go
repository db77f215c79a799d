package order

import (
	"errors"
	"go/ast"
	"go/build"
	"go/importer"
	"go/parser"
	"go/token"
	"go/types"
	"os/exec"
	"path/filepath"
	"strings"
	"testing"
)

// program is the files of a module, but its tests, and what their names mean.
type program struct {
	t     *testing.T
	fset  *token.FileSet
	root  string
	name  string
	info  *types.Info
	files []*ast.File
	packs map[string]*types.Package
	rest  types.Importer
}

func newInfo() *types.Info {
	return &types.Info{
		Types:      map[ast.Expr]types.TypeAndValue{},
		Uses:       map[*ast.Ident]types.Object{},
		Defs:       map[*ast.Ident]types.Object{},
		Selections: map[*ast.SelectorExpr]*types.Selection{},
	}
}

// load loads some packages of the module, and those that they call.
func (p *program) load(folders []string) {
	if build.Default.GOROOT == "" {
		out, _ := exec.Command("go", "env", "GOROOT").Output()
		build.Default.GOROOT = strings.TrimSpace(string(out))
	}
	p.info, p.packs = newInfo(), map[string]*types.Package{}
	p.rest = importer.ForCompiler(p.fset, "source", nil)
	for _, folder := range folders {
		if _, err := p.Import(p.name + "/" + folder); err != nil {
			p.t.Fatal(err)
		}
	}
}

// Import is a package by its path, loaded once.
func (p *program) Import(path string) (*types.Package, error) {
	folder, own := strings.CutPrefix(path, p.name+"/")
	if !own {
		return p.rest.Import(path)
	}
	if pack := p.packs[path]; pack != nil {
		return pack, nil
	}
	names, err := filepath.Glob(filepath.Join(p.root, folder, "*.go"))
	if err != nil {
		return nil, err
	}
	var files []*ast.File
	for _, name := range names {
		if strings.HasSuffix(name, "_test.go") {
			continue
		}
		f, err := parser.ParseFile(p.fset, name, nil, 0)
		if err != nil {
			return nil, err
		}
		files = append(files, f)
	}
	if len(files) == 0 {
		return nil, errors.New("no files of " + path)
	}
	pack, err := (&types.Config{Importer: p}).Check(path, p.fset, files, p.info)
	p.packs[path] = pack
	p.files = append(p.files, files...)
	return pack, err
}
