package sim_test

import (
	"slices"
	"testing"

	"glyphcutter/api"
	"glyphcutter/nfa"
	"glyphcutter/set"
	"glyphcutter/sim"
)

// ways says of any two states whether free ways lead from one to the other, found by states that may lie between.
func ways(n api.Nfa) [][]bool {
	states := len(n.Tags)
	out := make([][]bool, states)
	for i := range states {
		out[i] = make([]bool, states)
		out[i][i] = true
		for _, to := range n.Free[i] {
			out[i][to] = true
		}
	}
	for between := range states {
		for i := range states {
			for j := range states {
				out[i][j] = out[i][j] || out[i][between] && out[between][j]
			}
		}
	}
	return out
}

// stepped is where the chapter's words say that a machine is by a scalar more.
func stepped(n api.Nfa, free [][]bool, at []int, r int) []int {
	var out []int
	for state := range n.Tags {
		leads := func(from int) bool {
			return slices.ContainsFunc(n.Edges[from], func(e api.Edge) bool { return free[e.To][state] && set.Has(e.Set, r) })
		}
		in := false
		for from := range n.Tags {
			in = in || slices.Contains(at, from) && leads(from)
		}
		if in {
			out = append(out, state)
		}
	}
	return out
}

// tagged is the tags of some states, by the words.
func tagged(n api.Nfa, at []int) []int {
	var out []int
	for state, tag := range n.Tags {
		if tag != -1 && slices.Contains(at, state) && !slices.Contains(out, tag) {
			out = append(out, tag)
		}
	}
	slices.Sort(out)
	return out
}

// expectGoes holds all calls of a machine, by some texts, against the words.
func expectGoes(t *testing.T, n api.Nfa, texts [][]int) {
	t.Helper()
	free := ways(n)
	var first []int
	for state := range n.Tags {
		if free[0][state] {
			first = append(first, state)
		}
	}
	if got := sim.Start(n); !slices.Equal(got, first) {
		t.Fatalf("Start of %v: %v, want %v", n, got, first)
	}
	for _, s := range texts {
		at, length, tag := first, 0, -1
		for i, r := range s {
			next := stepped(n, free, at, r)
			if got := sim.Step(n, at, r); !slices.Equal(got, next) {
				t.Fatalf("Step of %v from %v by %d: %v, want %v", n, at, r, got, next)
			}
			at = next
			told := tagged(n, at)
			if got := sim.Tags(n, at); !slices.Equal(got, told) {
				t.Fatalf("Tags of %v at %v: %v, want %v", n, at, got, told)
			}
			if len(told) > 0 {
				length, tag = i+1, slices.Min(told)
			}
		}
		if k, got := sim.Longest(n, s); k != length || got != tag {
			t.Fatalf("Longest of %v by %v: %d, %d, want %d, %d", n, s, k, got, length, tag)
		}
	}
}

// expectPlaces holds Step and Tags of any places against the words.
func expectPlaces(t *testing.T, n api.Nfa, at []int, r int) {
	t.Helper()
	if got, want := sim.Step(n, at, r), stepped(n, ways(n), at, r); !slices.Equal(got, want) {
		t.Fatalf("Step of %v from %v by %d: %v, want %v", n, at, r, got, want)
	}
	if got, want := sim.Tags(n, at), tagged(n, at); !slices.Equal(got, want) {
		t.Fatalf("Tags of %v at %v: %v, want %v", n, at, got, want)
	}
}

// texts is all texts of some scalars of up to some length.
func texts(scalars []int, most int) [][]int {
	out := [][]int{nil}
	for at := 0; at < len(out); at++ {
		if len(out[at]) < most {
			for _, r := range scalars {
				out = append(out, append(slices.Clone(out[at]), r))
			}
		}
	}
	return out
}

// TestAllOfTwo holds all machines of two states, with edges by a, b or both, against the words.
func TestAllOfTwo(t *testing.T) {
	sets := [][]api.Span{nil, spans('a', 'a'), spans('b', 'b'), spans('a', 'b')}
	some := texts([]int{'a', 'b'}, 3)
	for word := range 4 * 4 * 4 * 4 * 16 * 9 {
		pick := func(n int) int {
			k := word % n
			word /= n
			return k
		}
		n := api.Nfa{Edges: make([][]api.Edge, 2), Free: make([][]int, 2), Tags: make([]int, 2)}
		for from := range 2 {
			for to := range 2 {
				if l := sets[pick(4)]; l != nil {
					n.Edges[from] = append(n.Edges[from], api.Edge{To: to, Set: l})
				}
				if pick(2) == 1 {
					n.Free[from] = append(n.Free[from], to)
				}
			}
			n.Tags[from] = pick(3) - 1
		}
		expectGoes(t, n, some)
	}
}

// picker draws numbers in one order that is the same each time.
type picker uint32

func (p *picker) below(n int) int {
	*p = *p*1664525 + 1013904223
	return int(*p>>8) % n
}

// set is any set of the first letters.
func (p *picker) set() []api.Span {
	var l []api.Span
	for range p.below(4) {
		lo := 'a' + p.below(5)
		l = append(l, api.Span{Lo: lo, Hi: lo + p.below(2)})
	}
	return set.Norm(l)
}

// machine is any machine of some states, with few ways or many.
func (p *picker) machine(states int) api.Nfa {
	n := api.Nfa{Edges: make([][]api.Edge, states), Free: make([][]int, states), Tags: make([]int, states)}
	edges, ways := 1+p.below(4), 1+p.below(3)
	for i := range states {
		for range p.below(edges) {
			to := p.below(states)
			n.Edges[i] = append(n.Edges[i], api.Edge{To: to, Set: p.set()})
		}
		for range p.below(ways) {
			n.Free[i] = append(n.Free[i], p.below(states))
		}
		n.Tags[i] = max(-1, p.below(12)-7)
	}
	return n
}

// TestManyMachines holds any machines, by any texts and from any places, against the words.
func TestManyMachines(t *testing.T) {
	p := picker(1)
	told := 0
	for range 6000 {
		n := p.machine(1 + p.below(12))
		var some [][]int
		for range 6 {
			var s []int
			for range p.below(8) {
				s = append(s, 'a'+p.below(6))
			}
			some = append(some, s)
		}
		expectGoes(t, n, some)
		if k, _ := sim.Longest(n, some[0]); k > 1 {
			told++
		}
		for range 6 {
			var at []int
			for range p.below(9) {
				at = append(at, p.below(16)-2)
			}
			expectPlaces(t, n, at, 'a'+p.below(6))
		}
	}
	if told < 300 {
		t.Errorf("only %d of 6000 machines told more than one scalar", told)
	}
}

// ends is where one may be behind what a pattern tells of s from one of some places on.
func ends(n api.Node, s []int, from []int) []int {
	var out []int
	switch n.Kind {
	case api.Empty:
		out = slices.Clone(from)
	case api.Chars:
		for _, at := range from {
			if at < len(s) && set.Has(n.Set, s[at]) {
				out = append(out, at+1)
			}
		}
	case api.Cat:
		out = from
		for _, k := range n.Kids {
			out = ends(k, s, out)
		}
	case api.Or:
		for _, k := range n.Kids {
			out = append(out, ends(k, s, from)...)
		}
	case api.Rep:
		most := n.Max
		if most == -1 {
			// More than so many times tell no more: a time that tells something goes on by one at least.
			most = n.Min + len(s) + 1
		}
		for i := 0; i <= most; i++ {
			if i >= n.Min {
				out = append(out, from...)
			}
			from = ends(n.Kids[0], s, from)
		}
	}
	out = slices.Clone(out)
	slices.Sort(out)
	return slices.Compact(out)
}

// node is any node that is sound, of no more than some levels.
func (p *picker) node(levels int) api.Node {
	kind := uint8(p.below(5))
	if levels == 0 {
		kind = min(kind, api.Chars)
	}
	n := api.Node{Kind: kind}
	switch kind {
	case api.Chars:
		n.Set = p.set()
	case api.Cat, api.Or:
		for range 2 + p.below(4)/2 {
			n.Kids = append(n.Kids, p.node(levels-1))
		}
	case api.Rep:
		n.Kids = append(n.Kids, p.node(levels-1))
		n.Min = p.below(3)
		n.Max = n.Min + p.below(4) - 1
		if n.Max < n.Min {
			n.Max = -1
		}
	}
	return n
}

// TestPatterns: the longest front is the longest that a pattern tells, and its tag the first of those that do.
func TestPatterns(t *testing.T) {
	p := picker(7)
	some := texts([]int{'a', 'b', 'c'}, 4)
	lengths := make([]int, 5)
	for range 1500 {
		var l []api.Node
		for range 1 + p.below(5) {
			l = append(l, p.node(p.below(4)))
		}
		n, e := nfa.Build(l)
		if e != api.OK {
			continue
		}
		for _, s := range some {
			length, tag := 0, -1
			for i, x := range l {
				if k := slices.Max(append(ends(x, s, []int{0}), 0)); k > length {
					length, tag = k, i
				}
			}
			if k, got := sim.Longest(n, s); k != length || got != tag {
				t.Fatalf("Longest of %v by %v: %d, %d, want %d, %d", l, s, k, got, length, tag)
			}
			lengths[length]++
		}
	}
	if slices.Min(lengths) < 1000 {
		t.Errorf("fronts of each length: %v", lengths)
	}
}
