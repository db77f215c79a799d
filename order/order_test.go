// Package order holds the program's statements against what Go leaves open: whether a variable is read ahead of a call in the same statement that may change it, or behind it.
// No answer tells that, as long as the compiler takes the order that was thought of; so the statements themselves are looked at.
package order

import (
	"go/ast"
	"go/parser"
	"go/token"
	"go/types"
	"testing"
)

// TestProgram: no statement of the program hangs on an order that is open.
func TestProgram(t *testing.T) {
	p := program{t: t, fset: token.NewFileSet(), root: "..", name: "glyphcutter"}
	p.load([]string{
		"set", "utf", "seqs", "fold", "props", "rx", "write", "nfa", "sim", "terms", "dfa", "least",
		"lower", "class", "pack", "norm", "rules", "build", "store", "run", "lines", "feed", "lab", "rate",
	})
	for _, f := range p.files {
		for _, place := range openPlaces(p.info, f) {
			t.Errorf("%s: this is read ahead of a call that may change it, or behind it", p.fset.Position(place))
		}
	}
}

// TestOpenPlaces: what is open is found, and what is not is let be.
func TestOpenPlaces(t *testing.T) {
	for body, want := range map[string]int{
		"b.row[b.more()] = 1":                     1,
		"i := b.more(); b.row[i] = 1":             0,
		"b.row[0] += b.more()":                    1,
		"b.row = append(b.row, b.more())":         1,
		"b.n = b.more()":                          0,
		"use(b.n, b.more())":                      1,
		"use(b.more(), b.n)":                      1,
		"use(b.with(b.n), 1)":                     0,
		"use(b.with(b.n), b.with(2))":             0,
		"use(b.with(b.with(b.n)), 2)":             0,
		"use(b.with(1), b.with(b.n))":             1,
		"use(use(b.n, 1), b.more())":              0,
		"use(c.n, b.more())":                      0,
		"use(b.n, b.less())":                      0,
		"use(b.n, change(b))":                     1,
		"use(v.n, change(&v))":                    1,
		"use(v.n, v.more())":                      1,
		"use(v.n, v.part.more())":                 1,
		"use(b.n, b.part.more())":                 1,
		"w := []box{v, v.self()}; use(w[0].n, 1)": 1,
		"_ = b.n > 0 && b.more() > 0":             0,
		"_ = b.n + b.more() > 0 && b.n > 0":       1,
		"if b.more() > b.n { b.n = 2 }":           1,
		"for b.n < b.more() { b.n = 3 }":          1,
		"switch b.more() - b.n { case 0: }":       1,
		"switch { case b.n == b.more(): }":        1,
		"for range b.row[:b.more()] { b.n = 3 }":  1,
		"return b.n, b.more()":                    1,
		"b.more(); return b.n, 1":                 0,
		"at := 0; next := func() int { at++; return at }; use(at, next())":         1,
		"at := 0; next := func() int { at++; return at }; at = next()":             0,
		"at := 0; next := func() int { at++; return at }; use(c.n, next())":        0,
		"at := 0; next := func(n int) int { at = n; return at }; use(next(at), 1)": 0,
		"f := func() int { return use(b.n, b.more()) }; f()":                       1,
		"at := 0; use(at, func() int { at++; return at }())":                       1,
	} {
		if got := len(placesOf(t, body)); got != want {
			t.Errorf("%s: %d open places, want %d", body, got, want)
		}
	}
}

// placesOf is the open places of one function.
func placesOf(t *testing.T, body string) []token.Pos {
	t.Helper()
	const head = `package x
type part struct { m int }
type box struct { row []int; n int; part part }
func (p *part) more() int { p.m++; return p.m }
func (b *box) more() int { b.row = append(b.row, 0); b.n++; return len(b.row) - 1 }
func (b *box) with(n int) int { b.n += n; return b.n }
func (b *box) self() box { b.n++; return *b }
func (b box) less() int { return b.n - 1 }
func change(b *box) int { return b.more() }
func use(n ...int) int { return len(n) }
func try(b, c *box, v box) (int, int) { `
	fset := token.NewFileSet()
	f, err := parser.ParseFile(fset, "x.go", head+body+"; return 0, 0 }", 0)
	if err != nil {
		t.Fatal(body, err)
	}
	info := newInfo()
	if _, err := (&types.Config{}).Check("x", fset, []*ast.File{f}, info); err != nil {
		t.Fatal(body, err)
	}
	return openPlaces(info, f)
}
