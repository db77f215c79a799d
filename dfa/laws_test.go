package dfa_test

import (
	"slices"
	"testing"

	"glyphcutter/api"
	"glyphcutter/dfa"
	"glyphcutter/nfa"
	"glyphcutter/set"
	"glyphcutter/sim"
	"glyphcutter/terms"
)

// worded is the machine as the chapter's words say it, however many states it has.
func worded(n api.Nfa) api.Dfa {
	var sets [][]api.Span
	for _, edges := range n.Edges {
		for _, e := range edges {
			sets = append(sets, e.Set)
		}
	}
	d := api.Dfa{Parts: terms.Of(sets)}
	states := [][]int{sim.Start(n)}
	for at := 0; at < len(states); at++ {
		row := make([]int, len(d.Parts))
		for i, part := range d.Parts {
			next := sim.Step(n, states[at], part[0].Lo)
			row[i] = slices.IndexFunc(states, func(known []int) bool { return slices.Equal(known, next) })
			if row[i] == -1 && len(next) > 0 {
				row[i] = len(states)
				states = append(states, next)
			}
		}
		tag := -1
		if told := sim.Tags(n, states[at]); len(told) > 0 {
			tag = slices.Min(told)
		}
		d.Next = append(d.Next, row)
		d.Tags = append(d.Tags, tag)
	}
	return d
}

// longest is the longest front, as the words say it.
func longest(d api.Dfa, s []int) (int, int) {
	length, tag, at := 0, -1, 0
	for i, r := range s {
		part := terms.Which(d.Parts, r)
		if part == -1 || d.Next[at][part] == -1 {
			return length, tag
		}
		at = d.Next[at][part]
		if d.Tags[at] != -1 {
			length, tag = i+1, d.Tags[at]
		}
	}
	return length, tag
}

// expectMade holds a machine's one against the words, with just so many states and with fewer, and what it tells against what the machine tells.
func expectMade(t *testing.T, n api.Nfa, texts [][]int) api.Dfa {
	t.Helper()
	want := worded(n)
	got, e := dfa.Of(n, len(want.Tags))
	if e != api.OK || !same(got, want) {
		t.Fatalf("Of %s: %d, %s, want %s", brief(n), e, brief(got), brief(want))
	}
	if !dfa.Sound(got) {
		t.Fatalf("Of %s: %s is not Sound", brief(n), brief(got))
	}
	if fewer := len(want.Tags) - 1; fewer > 0 {
		expectError(t, "one state too many", n, fewer, api.ErrLong)
	}
	for _, s := range texts {
		k, tag := sim.Longest(n, s)
		expectLongest(t, "as the machine tells", got, s, k, tag)
		if t.Failed() {
			t.Fatalf("of %s by %v", brief(n), s)
		}
	}
	return got
}

// texts is all texts of some scalars of up to some length.
func texts(scalars []int, most int) [][]int {
	out := [][]int{nil}
	for at := 0; at < len(out); at++ {
		if len(out[at]) < most {
			for _, r := range scalars {
				out = append(out, append(slices.Clone(out[at]), r))
			}
		}
	}
	return out
}

// TestAllOfTwo holds all machines of two states, with edges by a, b or both, against the words.
func TestAllOfTwo(t *testing.T) {
	sets := [][]api.Span{nil, spans('a', 'a'), spans('b', 'b'), spans('a', 'b')}
	some := texts([]int{'a', 'b'}, 3)
	for word := range 4 * 4 * 4 * 4 * 16 * 9 {
		pick := func(n int) int {
			k := word % n
			word /= n
			return k
		}
		n := api.Nfa{Edges: make([][]api.Edge, 2), Free: make([][]int, 2), Tags: make([]int, 2)}
		for from := range 2 {
			for to := range 2 {
				if l := sets[pick(4)]; l != nil {
					n.Edges[from] = append(n.Edges[from], api.Edge{To: to, Set: l})
				}
				if pick(2) == 1 {
					n.Free[from] = append(n.Free[from], to)
				}
			}
			n.Tags[from] = pick(3) - 1
		}
		expectMade(t, n, some)
	}
}

// picker draws numbers in one order that is the same each time.
type picker uint32

func (p *picker) below(n int) int {
	*p = *p*1664525 + 1013904223
	return int(*p>>8) % n
}

// set is any set of the first letters.
func (p *picker) set() []api.Span {
	var l []api.Span
	for range p.below(4) {
		lo := 'a' + p.below(6)
		l = append(l, api.Span{Lo: lo, Hi: lo + p.below(3)})
	}
	return set.Norm(l)
}

// machine is any machine of some states, with few ways or many.
func (p *picker) machine(states int) api.Nfa {
	n := api.Nfa{Edges: make([][]api.Edge, states), Free: make([][]int, states), Tags: make([]int, states)}
	edges, ways := 1+p.below(4), 1+p.below(3)
	for i := range states {
		for range p.below(edges) {
			to := p.below(states)
			n.Edges[i] = append(n.Edges[i], api.Edge{To: to, Set: p.set()})
		}
		for range p.below(ways) {
			n.Free[i] = append(n.Free[i], p.below(states))
		}
		n.Tags[i] = max(-1, p.below(12)-7)
	}
	return n
}

// texts is some texts of the first letters, and of some more.
func (p *picker) texts(many, most int) [][]int {
	var out [][]int
	for range many {
		var s []int
		for range p.below(most + 1) {
			s = append(s, 'a'+p.below(9))
		}
		out = append(out, s)
	}
	return out
}

// TestManyMachines holds any machines, and what they tell of any texts, against the words.
func TestManyMachines(t *testing.T) {
	p := picker(1)
	great := 0
	for range 6000 {
		n := p.machine(1 + p.below(12))
		if d := expectMade(t, n, p.texts(6, 8)); len(d.Tags) > 6 {
			great++
		}
	}
	if great < 300 {
		t.Errorf("only %d of 6000 machines have more than six states", great)
	}
}

// TestManyWays holds machines with many edges to few states, and to each of them very often, against the words.
func TestManyWays(t *testing.T) {
	p := picker(3)
	for range 300 {
		n := p.machine(2 + p.below(5))
		for i := range n.Edges {
			for range p.below(40) {
				n.Edges[i] = append(n.Edges[i], api.Edge{To: p.below(len(n.Tags)), Set: p.set()})
				n.Free[i] = append(n.Free[i], p.below(1+i))
			}
		}
		expectMade(t, n, p.texts(4, 6))
	}
}

// TestManyLongest holds what any machines tell, whether one was made of another or not, against the words.
func TestManyLongest(t *testing.T) {
	p := picker(5)
	lengths := make([]int, 9)
	for range 6000 {
		d := api.Dfa{Parts: terms.Of([][]api.Span{p.set(), p.set(), p.set(), p.set()})}
		if p.below(2) == 0 {
			slices.Reverse(d.Parts)
			d.Parts = append(d.Parts, nil)
		}
		states := 1 + p.below(6)
		for range states {
			var row []int
			for range d.Parts {
				to := p.below(states)
				if p.below(8) == 0 {
					to = -1
				}
				row = append(row, to)
			}
			d.Next = append(d.Next, row)
			d.Tags = append(d.Tags, p.below(5)-1)
		}
		for _, s := range p.texts(8, 8) {
			length, tag := longest(d, s)
			expectLongest(t, "by the words", d, s, length, tag)
			if t.Failed() {
				t.Fatalf("of %v by %v", d, s)
			}
			lengths[length]++
		}
	}
	if slices.Min(lengths) < 100 {
		t.Errorf("fronts of each length: %v", lengths)
	}
}

// ends is where one may be behind what a pattern tells of s from one of some places on.
func ends(n api.Node, s []int, from []int) []int {
	var out []int
	switch n.Kind {
	case api.Empty:
		out = slices.Clone(from)
	case api.Chars:
		for _, at := range from {
			if at < len(s) && set.Has(n.Set, s[at]) {
				out = append(out, at+1)
			}
		}
	case api.Cat:
		out = from
		for _, k := range n.Kids {
			out = ends(k, s, out)
		}
	case api.Or:
		for _, k := range n.Kids {
			out = append(out, ends(k, s, from)...)
		}
	case api.Rep:
		most := n.Max
		if most == -1 {
			// More than so many times tell no more: a time that tells something goes on by one at least.
			most = n.Min + len(s) + 1
		}
		for i := 0; i <= most; i++ {
			if i >= n.Min {
				out = append(out, from...)
			}
			from = ends(n.Kids[0], s, from)
		}
	}
	out = slices.Clone(out)
	slices.Sort(out)
	return slices.Compact(out)
}

// node is any node that is sound, of no more than some levels.
func (p *picker) node(levels int) api.Node {
	kind := uint8(p.below(5))
	if levels == 0 {
		kind = min(kind, api.Chars)
	}
	n := api.Node{Kind: kind}
	switch kind {
	case api.Chars:
		n.Set = p.set()
	case api.Cat, api.Or:
		for range 2 + p.below(4)/2 {
			n.Kids = append(n.Kids, p.node(levels-1))
		}
	case api.Rep:
		n.Kids = append(n.Kids, p.node(levels-1))
		n.Min = p.below(3)
		n.Max = n.Min + p.below(4) - 1
		if n.Max < n.Min {
			n.Max = -1
		}
	}
	return n
}

// TestPatterns: T1: the longest front is the longest that a pattern tells, and its tag the first of those that do; and T3: of one file there is one machine.
func TestPatterns(t *testing.T) {
	p := picker(7)
	some := texts([]int{'a', 'b', 'c'}, 4)
	lengths := make([]int, 5)
	for range 1000 {
		var l []api.Node
		for range 1 + p.below(5) {
			l = append(l, p.node(p.below(4)))
		}
		n, e := nfa.Build(l)
		if e != api.OK || len(n.Tags) > 300 {
			continue
		}
		d := expectMade(t, n, nil)
		for _, s := range some {
			length, tag := 0, -1
			for i, x := range l {
				if k := slices.Max(append(ends(x, s, []int{0}), 0)); k > length {
					length, tag = k, i
				}
			}
			expectLongest(t, "as the patterns tell", d, s, length, tag)
			if t.Failed() {
				t.Fatalf("of %v by %v", l, s)
			}
			lengths[length]++
		}
	}
	if slices.Min(lengths) < 1000 {
		t.Errorf("fronts of each length: %v", lengths)
	}
}
