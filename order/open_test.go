package order

import (
	"go/ast"
	"go/token"
	"go/types"
	"maps"
	"slices"
)

// openPlaces are where a file reads what a call in the same statement may change, and is not part of that call, nor of one ahead of it.
func openPlaces(info *types.Info, f *ast.File) []token.Pos {
	var out []token.Pos
	for _, d := range f.Decls {
		fn, ok := d.(*ast.FuncDecl)
		if !ok || fn.Body == nil {
			continue
		}
		caught := caughtIn(info, fn.Body)
		for _, l := range units(fn.Body) {
			u := unit{info: info, caught: caught}
			for _, n := range l {
				u.walk(n)
			}
			out = append(out, u.open()...)
		}
	}
	return out
}

// units are the statements of a body and of the functions in it, each as the expressions that are evaluated at once.
func units(body ast.Node) [][]ast.Node {
	var out [][]ast.Node
	ast.Inspect(body, func(n ast.Node) bool {
		switch x := n.(type) {
		case *ast.AssignStmt, *ast.ExprStmt, *ast.ReturnStmt, *ast.SendStmt, *ast.IncDecStmt, *ast.ValueSpec, *ast.DeferStmt, *ast.GoStmt:
			out = append(out, []ast.Node{x})
		case *ast.IfStmt:
			out = append(out, []ast.Node{x.Cond})
		case *ast.ForStmt:
			out = append(out, []ast.Node{x.Cond})
		case *ast.SwitchStmt:
			out = append(out, []ast.Node{x.Tag})
		case *ast.RangeStmt:
			out = append(out, []ast.Node{x.X})
		case *ast.CaseClause:
			for _, e := range x.List {
				out = append(out, []ast.Node{e})
			}
		}
		return true
	})
	return out
}

// caughtIn are the variables that a function within a body sets, and that are made outside of it.
func caughtIn(info *types.Info, body ast.Node) map[types.Object]bool {
	out := map[types.Object]bool{}
	ast.Inspect(body, func(n ast.Node) bool {
		lit, ok := n.(*ast.FuncLit)
		if !ok {
			return true
		}
		ast.Inspect(lit.Body, func(n ast.Node) bool {
			var set []ast.Expr
			switch x := n.(type) {
			case *ast.AssignStmt:
				set = x.Lhs
			case *ast.IncDecStmt:
				set = []ast.Expr{x.X}
			}
			for _, e := range set {
				if v := rootOf(info, e); v != nil && (v.Pos() < lit.Pos() || v.Pos() > lit.End()) {
					out[v] = true
				}
			}
			return true
		})
		return true
	})
	return out
}

// rootOf is the variable in which, or behind which, an expression's value lies; nil, if there is none.
func rootOf(info *types.Info, e ast.Expr) types.Object {
	for {
		switch x := e.(type) {
		case *ast.Ident:
			o := info.Uses[x]
			if o == nil {
				o = info.Defs[x]
			}
			if v, ok := o.(*types.Var); ok {
				return v
			}
			return nil
		case *ast.SelectorExpr:
			e = x.X
		case *ast.IndexExpr:
			e = x.X
		case *ast.SliceExpr:
			e = x.X
		case *ast.StarExpr:
			e = x.X
		case *ast.ParenExpr:
			e = x.X
		case *ast.UnaryExpr:
			e = x.X
		default:
			return nil
		}
	}
}

// read is where a variable is read, what lies around that, from without to within.
type read struct {
	v      types.Object
	around []ast.Node
}

// call is one that may change some variables.
type call struct {
	node    *ast.CallExpr
	changes map[types.Object]bool
	around  []ast.Node
}

// unit is what is read and called in one statement.
type unit struct {
	info   *types.Info
	caught map[types.Object]bool // the variables that functions within the same body set
	reads  []read
	calls  []call
}

// walk gathers what is read and called; bodies of functions are evaluated elsewhere.
func (u *unit) walk(root ast.Node) {
	if root == nil {
		return
	}
	var around []ast.Node
	ast.Inspect(root, func(n ast.Node) bool {
		if n == nil {
			around = around[:len(around)-1]
			return false
		}
		around = append(around, n)
		switch x := n.(type) {
		case *ast.CallExpr:
			if changes := u.changes(x); len(changes) > 0 {
				u.calls = append(u.calls, call{node: x, changes: changes, around: slices.Clone(around)})
			}
		case *ast.Ident:
			if v, ok := u.info.Uses[x].(*types.Var); ok && !v.IsField() && u.isRead(around, v) {
				u.reads = append(u.reads, read{v: v, around: slices.Clone(around)})
			}
		case *ast.FuncLit:
			// Its body is a unit, or more, of its own.
			around = around[:len(around)-1]
			return false
		}
		return true
	})
}

// changes are the variables that a call may change: those that it is a method of, or gets a pointer to; and of a function that is a value all that are caught.
func (u *unit) changes(c *ast.CallExpr) map[types.Object]bool {
	if kind := u.info.Types[c.Fun]; kind.IsType() || kind.IsBuiltin() {
		return nil
	}
	out := map[types.Object]bool{}
	switch fun := ast.Unparen(c.Fun).(type) {
	case *ast.SelectorExpr:
		if s := u.info.Selections[fun]; s != nil && takesPlace(s) {
			out[rootOf(u.info, fun.X)] = true
		}
	case *ast.Ident:
		if _, ok := u.info.Uses[fun].(*types.Var); ok {
			out = maps.Clone(u.caught)
		}
	case *ast.FuncLit:
		out = maps.Clone(u.caught)
	}
	for _, a := range c.Args {
		if isPointer(u.info.Types[a].Type) {
			out[rootOf(u.info, a)] = true
		}
	}
	delete(out, nil)
	return out
}

func isPointer(t types.Type) bool {
	if t == nil {
		return false
	}
	_, ok := t.Underlying().(*types.Pointer)
	return ok
}

// isRead says whether what lies in a variable, or right behind it, is read at its name: not where it is set whole, or its place alone is asked for.
func (u *unit) isRead(around []ast.Node, v types.Object) bool {
	last := len(around) - 1
	// A pointer by itself says where something lies, and that no call changes.
	behind := !isPointer(v.Type()) || u.caught[v]
	for {
		part := around[last].(ast.Expr)
		if last == 0 {
			return behind
		}
		last--
		switch x := around[last].(type) {
		case *ast.ParenExpr:
		case *ast.StarExpr:
			behind = true
		case *ast.SelectorExpr:
			if s := u.info.Selections[x]; s.Kind() != types.FieldVal {
				return !takesPlace(s) || behind && isPointer(u.info.Types[part].Type)
			}
			behind = true
		case *ast.UnaryExpr:
			return x.Op != token.AND
		case *ast.AssignStmt:
			return behind && !setsWhole(x, part)
		default:
			return behind
		}
	}
}

// takesPlace says whether a method gets a pointer to what it is a method of.
func takesPlace(s *types.Selection) bool {
	f, ok := s.Obj().(*types.Func)
	return ok && isPointer(f.Signature().Recv().Type())
}

// setsWhole says whether a statement sets a part without reading it.
func setsWhole(a *ast.AssignStmt, part ast.Expr) bool {
	return slices.Contains(a.Lhs, part) && (a.Tok == token.ASSIGN || a.Tok == token.DEFINE)
}

// open are the places of reads that no rule puts ahead of a call that may change what they read, or behind it.
func (u *unit) open() []token.Pos {
	var out []token.Pos
	for _, r := range u.reads {
		for _, c := range u.calls {
			if c.changes[r.v] && !u.ordered(r, c) {
				out = append(out, r.around[len(r.around)-1].Pos())
				break
			}
		}
	}
	return out
}

// ordered says whether a rule of Go puts a read ahead of a call, or behind it.
func (u *unit) ordered(r read, c call) bool {
	for i, n := range r.around {
		switch x := n.(type) {
		case *ast.CallExpr:
			// What a call gets is read ahead of it; and calls come one behind the other.
			if x == c.node {
				return true
			}
			kind := u.info.Types[x.Fun]
			if !kind.IsType() && !kind.IsBuiltin() && x.End() <= c.node.Pos() {
				return true
			}
		case *ast.BinaryExpr:
			apart := i < len(c.around) && c.around[i] == n && i+1 < len(r.around) && i+1 < len(c.around) && r.around[i+1] != c.around[i+1]
			if apart && (x.Op == token.LAND || x.Op == token.LOR) {
				return true
			}
		}
	}
	return false
}
