package nfa_test

import (
	"slices"
	"testing"

	"glyphcutter/api"
	"glyphcutter/nfa"
	"glyphcutter/set"
)

// drawn is a machine as the chapter's words draw it, without regard to how long that takes.
type drawn struct{ n api.Nfa }

func (d *drawn) add() int {
	d.n.Edges = append(d.n.Edges, nil)
	d.n.Free = append(d.n.Free, nil)
	d.n.Tags = append(d.n.Tags, -1)
	return len(d.n.Tags) - 1
}

func (d *drawn) way(from, to int) { d.n.Free[from] = append(d.n.Free[from], to) }

func (d *drawn) forked(n api.Node, behind int) int {
	s := d.add()
	d.way(behind, s)
	return d.laid(n, s)
}

func (d *drawn) laid(n api.Node, behind int) int {
	if len(d.n.Tags) > 3000 {
		return behind
	}
	here := behind
	switch n.Kind {
	case 1:
		here = d.add()
		d.n.Edges[behind] = append(d.n.Edges[behind], api.Edge{To: here, Set: n.Set})
	case 2:
		for _, k := range n.Kids {
			here = d.laid(k, here)
		}
	case 3:
		here = d.add()
		for _, k := range n.Kids {
			d.way(d.forked(k, behind), here)
		}
	case 4:
		for i := 0; i < n.Min; i++ {
			here = d.forked(n.Kids[0], here)
		}
		end := d.add()
		d.way(here, end)
		if n.Max == -1 {
			d.way(d.forked(n.Kids[0], end), end)
		}
		for i := n.Min; i < n.Max; i++ {
			here = d.forked(n.Kids[0], here)
			d.way(here, end)
		}
		here = end
	}
	return here
}

// draw is the machine of some patterns.
func draw(l []api.Node) api.Nfa {
	var d drawn
	d.add()
	for i, n := range l {
		end := d.forked(n, 0)
		d.n.Tags[end] = i
	}
	return d.n
}

// ends is where one may be behind what a pattern tells of s from one of some places on.
func ends(n api.Node, s []int, from []int) []int {
	var out []int
	switch n.Kind {
	case api.Empty:
		out = slices.Clone(from)
	case api.Chars:
		for _, at := range from {
			if at < len(s) && set.Has(n.Set, s[at]) {
				out = append(out, at+1)
			}
		}
	case api.Cat:
		out = from
		for _, k := range n.Kids {
			out = ends(k, s, out)
		}
	case api.Or:
		for _, k := range n.Kids {
			out = append(out, ends(k, s, from)...)
		}
	case api.Rep:
		most := n.Max
		if most == -1 {
			// More than so many times tell no more: a time that tells something goes on by one at least.
			most = n.Min + len(s) + 1
		}
		for i := 0; i <= most; i++ {
			if i >= n.Min {
				out = append(out, from...)
			}
			from = ends(n.Kids[0], s, from)
		}
	}
	slices.Sort(out)
	return slices.Compact(out)
}

// told is the tags that one comes to by the scalars of s, rising.
func told(n api.Nfa, s []int) []int {
	at := reached(n, []int{0})
	for _, r := range s {
		var next []int
		for _, i := range at {
			for _, e := range n.Edges[i] {
				if set.Has(e.Set, r) {
					next = append(next, e.To)
				}
			}
		}
		at = reached(n, next)
	}
	var out []int
	for _, i := range at {
		if n.Tags[i] != -1 {
			out = append(out, n.Tags[i])
		}
	}
	slices.Sort(out)
	return slices.Compact(out)
}

// reached is some states, and all that free ways lead to from them.
func reached(n api.Nfa, at []int) []int {
	seen := make([]bool, len(n.Tags))
	var out []int
	for len(at) > 0 {
		i := at[0]
		at = at[1:]
		if !seen[i] {
			seen[i] = true
			out = append(out, i)
			at = append(at, n.Free[i]...)
		}
	}
	return out
}

// sameMachine says whether two machines are alike in all that they have.
func sameMachine(x, y api.Nfa) bool {
	sameEdges := func(k, l []api.Edge) bool {
		return slices.EqualFunc(k, l, func(e, f api.Edge) bool { return e.To == f.To && slices.Equal(e.Set, f.Set) })
	}
	return slices.EqualFunc(x.Edges, y.Edges, sameEdges) && slices.EqualFunc(x.Free, y.Free, slices.Equal[[]int]) && slices.Equal(x.Tags, y.Tags)
}

// expectDrawn holds a machine against the chapter's words. It says whether there is one.
func expectDrawn(t *testing.T, l []api.Node) (api.Nfa, bool) {
	t.Helper()
	want := draw(l)
	got, e := nfa.Build(l)
	if len(want.Tags) > 2000 {
		if e != api.ErrLong || got.Tags != nil || got.Edges != nil || got.Free != nil {
			t.Fatalf("%v: error %d, want ErrLong", l, e)
		}
		return api.Nfa{}, false
	}
	if e != api.OK || !sameMachine(got, want) {
		t.Fatalf("%v: error %d\n got %s\nwant %s", l, e, shown(got), shown(want))
	}
	if !nfa.Sound(got) {
		t.Fatalf("%v: its machine is not Sound", l)
	}
	return got, true
}

// texts is all texts of some scalars of up to some length.
func texts(scalars []int, most int) [][]int {
	out := [][]int{nil}
	for at := 0; at < len(out); at++ {
		if len(out[at]) < most {
			for _, r := range scalars {
				out = append(out, append(slices.Clone(out[at]), r))
			}
		}
	}
	return out
}

// expectTold holds what a machine of some patterns comes to by texts against what the patterns tell.
func expectTold(t *testing.T, n api.Nfa, l []api.Node, texts [][]int) {
	t.Helper()
	for _, s := range texts {
		var want []int
		for i, p := range l {
			if slices.Contains(ends(p, s, []int{0}), len(s)) {
				want = append(want, i)
			}
		}
		if got := told(n, s); !slices.Equal(got, want) {
			t.Fatalf("%v by %v: the tags %v, want %v", l, s, got, want)
		}
	}
}

// TestAllSmall holds all trees of two levels over a few leaves, alone and side by side, against the words.
func TestAllSmall(t *testing.T) {
	leaves := list(empty, a, chars('a', 'b'), chars())
	var row []api.Node
	for _, x := range leaves {
		for _, times := range [][2]int{{0, -1}, {1, -1}, {2, -1}, {0, 0}, {0, 1}, {1, 1}, {1, 3}} {
			row = append(row, rep(times[0], times[1], x))
		}
		for _, y := range leaves {
			row = append(row, cat(x, y), or(x, y), cat(y, b, x), or(y, b, x))
		}
	}
	all := texts([]int{'a', 'b'}, 4)
	for i, x := range row {
		y, z := row[(i*7+3)%len(row)], row[(i*5+1)%len(row)]
		for _, l := range [][]api.Node{
			{x}, {x, y}, {y, x, z}, {rep(0, -1, x)}, {rep(1, 2, x), y}, {cat(x, y), or(y, x)}, {rep(2, -1, or(x, y)), cat(z, z)}, {or(cat(x, y), rep(0, 2, cat(y, z)))},
		} {
			n, _ := expectDrawn(t, l)
			expectTold(t, n, l, all)
		}
	}
}

// picker draws numbers in one order that is the same each time.
type picker uint32

func (p *picker) below(n int) int {
	*p = *p*1664525 + 1013904223
	return int(*p>>8) % n
}

// node is any node that is sound, of no more than some levels, with times up to some number.
func (p *picker) node(levels, times int) api.Node {
	var n api.Node
	kind := p.below(5)
	if levels == 0 {
		kind = min(1, p.below(3))
	}
	switch n.Kind = uint8(kind); kind {
	case 1:
		for range p.below(3) {
			lo := 'a' + p.below(4)
			n.Set = append(n.Set, api.Span{Lo: lo, Hi: lo + p.below(3)})
		}
		n.Set = set.Norm(n.Set)
	case 2, 3:
		for range 2 + p.below(4)/2 {
			n.Kids = append(n.Kids, p.node(levels-1, times))
		}
	case 4:
		n.Kids = list(p.node(levels-1, times))
		n.Min = p.below(times + 1)
		n.Max = n.Min + p.below(times+2-n.Min)
		if n.Max == times+1 {
			n.Max = -1
		}
	}
	return n
}

// TestManyMachines holds machines of many patterns, some of them too long, against the words.
func TestManyMachines(t *testing.T) {
	p := picker(1)
	some := texts([]int{'a', 'b', 'c'}, 3)
	long := 0
	for i := range 6000 {
		l := list(p.node(p.below(5), 2))
		for range p.below(4) {
			l = append(l, p.node(p.below(4), 3))
		}
		if i%4 == 0 {
			l = append(l, p.node(3+p.below(4), 20))
		}
		n, ok := expectDrawn(t, l)
		if !ok {
			long++
		}
		if ok && len(n.Tags) < 200 {
			expectTold(t, n, l, some)
		}
	}
	if long < 50 || long > 3000 {
		t.Errorf("%d of 6000 machines were too long", long)
	}
}

// TestReadPatterns: what patterns that are read tell, a machine comes to.
func TestReadPatterns(t *testing.T) {
	d := api.Def{Name: "D", Node: parse(t, "a|b{2}")}
	var l []api.Node
	for _, s := range []string{"", "a", "ab|a", "a*b", "(a|b)+", "{D}+", "({D}b?)*", "a{2,3}", "(?i:A)b", "[^a]", ".", "(|a)(|b)", "(a*)*", "(a{2}){2}", "[]"} {
		l = append(l, parse(t, s, d))
	}
	n, ok := expectDrawn(t, l)
	if !ok {
		t.Fatal("too long")
	}
	expectTold(t, n, l, texts([]int{'a', 'b', 'B'}, 6))
}

// TestSetsOfAllScalars: an edge leads by the first and the last scalar of each span, and by none beside them.
func TestSetsOfAllScalars(t *testing.T) {
	l := list(chars(0, 0xd7ff, 0xe000, 0x10ffff), chars(1, 1, 0xd7ff, 0xd7ff, 0xe000, 0xe000, 0x10000, 0x10fffe), chars(0x10ffff, 0x10ffff))
	n, _ := expectDrawn(t, l)
	expectTold(t, n, l, texts([]int{-1, 0, 1, 2, 0xd7fe, 0xd7ff, 0xd800, 0xdfff, 0xe000, 0xe001, 0xffff, 0x10000, 0x10fffe, 0x10ffff, 0x110000}, 2))
}
