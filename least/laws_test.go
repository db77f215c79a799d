package least_test

import (
	"fmt"
	"slices"
	"testing"

	"glyphcutter/api"
	"glyphcutter/dfa"
	"glyphcutter/least"
	"glyphcutter/nfa"
	"glyphcutter/set"
)

// full is a machine with one state more, the last one, which stands for nowhere, and without its parts of no scalar.
func full(d api.Dfa) api.Dfa {
	nowhere := len(d.Tags)
	out := api.Dfa{Next: make([][]int, nowhere+1), Tags: append(slices.Clone(d.Tags), -1)}
	for i, part := range d.Parts {
		if set.Size(part) == 0 {
			continue
		}
		out.Parts = append(out.Parts, part)
		for from, row := range d.Next {
			to := row[i]
			if to == -1 {
				to = nowhere
			}
			out.Next[from] = append(out.Next[from], to)
		}
		out.Next[nowhere] = append(out.Next[nowhere], nowhere)
	}
	return out
}

// grid is a row of marks for each state.
func grid(states int) [][]bool {
	out := make([][]bool, states)
	for i := range out {
		out[i] = make([]bool, states)
	}
	return out
}

// unlike says of any two states whether a row of parts leads from them to unlike tags: it marks pairs as long as there are more.
func unlike(d api.Dfa) [][]bool {
	out := grid(len(d.Tags))
	for again := true; again; {
		again = false
		for i := range d.Tags {
			for j := range d.Tags {
				apart := d.Tags[i] != d.Tags[j]
				for part := range d.Parts {
					apart = apart || out[d.Next[i][part]][d.Next[j][part]]
				}
				again = again || apart && !out[i][j]
				out[i][j] = out[i][j] || apart
			}
		}
	}
	return out
}

// rows says of any two states whether a row of parts leads from one to the other, by states that may lie between.
func rows(d api.Dfa) [][]bool {
	out := grid(len(d.Tags))
	for i, row := range d.Next {
		out[i][i] = true
		for _, to := range row {
			out[i][to] = true
		}
	}
	for between := range out {
		for i := range out {
			for j := range out {
				out[i][j] = out[i][j] || out[i][between] && out[between][j]
			}
		}
	}
	return out
}

// worded is the machine as the chapter's words say it.
func worded(d api.Dfa) api.Dfa {
	d = full(d)
	leads, apart := rows(d), unlike(d)
	// instead is which state stands for one: the first that is alike; -1 for those that are dead.
	instead := make([]int, len(d.Tags))
	for i := range instead {
		instead[i] = -1
		for j, tag := range d.Tags {
			if leads[i][j] && tag != -1 {
				instead[i] = slices.Index(apart[i], false)
			}
		}
	}
	// Once round for each state is enough to find all that are come to.
	come := make([]bool, len(d.Tags))
	come[0] = true
	for range d.Tags {
		for from, row := range d.Next {
			for _, to := range row {
				if come[from] && instead[to] != -1 {
					come[instead[to]] = true
				}
			}
		}
	}
	return numbered(d, partsOf(d, instead, come), instead)
}

// way is a part, and where it leads from each state.
type way struct {
	set []api.Span
	to  []int
}

// partsOf is the parts by which one goes from the states that are come to.
func partsOf(d api.Dfa, instead []int, come []bool) []way {
	var out []way
	for i, part := range d.Parts {
		x := way{set: part}
		some := false
		for from, row := range d.Next {
			to := -1
			if come[from] {
				to = instead[row[i]]
			}
			some = some || to != -1
			x.to = append(x.to, to)
		}
		if !some {
			continue
		}
		known := slices.IndexFunc(out, func(y way) bool { return slices.Equal(x.to, y.to) })
		if known == -1 {
			out = append(out, x)
		} else {
			out[known].set = set.Union(out[known].set, part)
		}
	}
	slices.SortFunc(out, func(x, y way) int { return x.set[0].Lo - y.set[0].Lo })
	return out
}

// numbered is the machine of these parts, its states numbered as they are come to.
func numbered(d api.Dfa, parts []way, instead []int) api.Dfa {
	var out api.Dfa
	for _, x := range parts {
		out.Parts = append(out.Parts, x.set)
	}
	states := []int{0}
	for i := 0; i < len(states); i++ {
		var row []int
		for _, x := range parts {
			to := x.to[states[i]]
			if to != -1 && !slices.Contains(states, to) {
				states = append(states, to)
			}
			row = append(row, slices.Index(states, to))
		}
		out.Next = append(out.Next, row)
		out.Tags = append(out.Tags, d.Tags[states[i]])
	}
	return out
}

// told is what a machine tells of rows of scalars up to some length, none too, from a state on: the tag to which each leads.
func told(d api.Dfa, from int, scalars []int, most int) []int {
	if from == -1 {
		return told(plain(1, 0), 0, scalars, most)
	}
	out := []int{d.Tags[from]}
	for _, r := range scalars {
		if most == 0 {
			continue
		}
		to := -1
		for i, part := range d.Parts {
			if set.Has(part, r) {
				to = d.Next[from][i]
			}
		}
		out = append(out, told(d, to, scalars, most-1)...)
	}
	return out
}

// expectLeast holds a machine's least one against the words, and that against itself.
func expectLeast(t *testing.T, d api.Dfa) api.Dfa {
	t.Helper()
	got, e := least.Of(d)
	if want := worded(d); e != api.OK || !same(got, want) {
		t.Fatalf("of %s: %d, %s, want %s", brief(d), e, brief(got), brief(want))
	}
	if !dfa.Sound(got) {
		t.Fatalf("of %s: %s is not Sound", brief(d), brief(got))
	}
	if again, e := least.Of(got); e != api.OK || !same(again, got) {
		t.Fatalf("of %s: %s, and of that %d, %s", brief(d), brief(got), e, brief(again))
	}
	return got
}

// expectFewest asks that a machine tells what another one tells of short rows, and that no two of its states, nor one and nowhere, tell the same: so none with fewer states tells it (T7).
func expectFewest(t *testing.T, d, m api.Dfa, scalars []int, most int) {
	t.Helper()
	if !slices.Equal(told(d, 0, scalars, most), told(m, 0, scalars, most)) {
		t.Fatalf("%s tells another thing than %s", brief(m), brief(d))
	}
	known := map[string]int{fmt.Sprint(told(m, -1, scalars, most)): -1}
	for state := range m.Tags {
		text := fmt.Sprint(told(m, state, scalars, most))
		if other, again := known[text]; again && state > 0 {
			t.Fatalf("of %s: %s, of which the states %d and %d tell the same", brief(d), brief(m), other, state)
		}
		known[text] = state
	}
}

// counter draws numbers in turn, so that all are drawn when it has gone from 0 to the product of what they are below.
type counter int

func (c *counter) below(n int) int {
	k := int(*c) % n
	*c /= counter(n)
	return k
}

// TestAllOfTwo holds all machines of two states and three parts, of which one has no scalar, or none of them, against the words.
func TestAllOfTwo(t *testing.T) {
	scalars := []int{'a', 'b', 'c'}
	for _, parts := range [][][]api.Span{
		{spans('a', 'a'), nil, spans('b', 'b')},
		{spans('c', 'c'), spans('a', 'a'), spans('b', 'b')},
	} {
		for word := range 3 * 3 * 3 * 3 * 3 * 3 * 9 {
			c := counter(word)
			d := api.Dfa{Parts: parts, Next: [][]int{nil, nil}}
			for i := range d.Next {
				for range d.Parts {
					d.Next[i] = append(d.Next[i], c.below(3)-1)
				}
				d.Tags = append(d.Tags, c.below(3)-1)
			}
			expectFewest(t, d, expectLeast(t, d), scalars, 3)
		}
	}
}

// TestAllOfThree holds all machines of three states and two parts against the words.
func TestAllOfThree(t *testing.T) {
	for word := range 4 * 4 * 4 * 4 * 4 * 4 * 27 {
		c := counter(word)
		d := api.Dfa{Parts: [][]api.Span{spans('b', 'b'), spans('a', 'a')}, Next: make([][]int, 3)}
		for i := range d.Next {
			d.Next[i] = []int{c.below(4) - 1, c.below(4) - 1}
			d.Tags = append(d.Tags, c.below(3)-1)
		}
		m := expectLeast(t, d)
		if word%7 == 0 {
			expectFewest(t, d, m, []int{'a', 'b'}, 4)
		}
	}
}

// picker draws numbers in one order that is the same each time.
type picker uint32

func (p *picker) below(n int) int {
	*p = *p*1664525 + 1013904223
	return int(*p>>8) % n
}

// sets is so many sets of the first letters that have no scalar in common, some of no scalar.
func (p *picker) sets(many int) [][]api.Span {
	out := make([][]api.Span, many)
	for r := 'a'; r < 'm'; r++ {
		if i := p.below(many + 1); i < many {
			out[i] = set.Union(out[i], spans(int(r), int(r)))
		}
	}
	return out
}

// machine is any machine of some states, with few tags or many, few ways or many, and some states that lead where another one does.
func (p *picker) machine(states int) api.Dfa {
	d := api.Dfa{Parts: p.sets(1 + p.below(6))}
	gaps, tags, again := 1+p.below(6), 2+p.below(6), 1+p.below(4)
	for i := range states {
		var row []int
		for range d.Parts {
			to := p.below(states)
			if p.below(2*gaps) == 0 {
				to = -1
			}
			row = append(row, to)
		}
		tag := max(-1, p.below(tags)-tags+2)
		if i > 0 && p.below(again+1) == 0 {
			from := p.below(i)
			row, tag = slices.Clone(d.Next[from]), d.Tags[from]
		}
		d.Next = append(d.Next, row)
		d.Tags = append(d.Tags, tag)
	}
	return d
}

// TestManyMachines holds any machines against the words.
func TestManyMachines(t *testing.T) {
	p := picker(1)
	sizes := make([]int, 13)
	for range 20000 {
		d := p.machine(1 + p.below(12))
		sizes[len(expectLeast(t, d).Tags)]++
	}
	if slices.Min(sizes[1:11]) < 200 {
		t.Errorf("machines by how many states they have: %v", sizes)
	}
}

// pick is one of some numbers.
func (p *picker) pick(l []int) int { return l[p.below(len(l))] }

// shuffled is the numbers below n in any order, but 0 the first.
func (p *picker) shuffled(n int) []int {
	out := make([]int, n)
	for i := range out {
		out[i] = i
		if i > 1 {
			j := 1 + p.below(i)
			out[i], out[j] = out[j], out[i]
		}
	}
	return out
}

// longer is a machine that tells the same, with many states for each one, dead ones, such as are not come to, and parts that are cut and mixed.
func (p *picker) longer(d api.Dfa) api.Dfa {
	states, times := len(d.Tags), 1+p.below(3)
	dead, more := states*times, states*times+2
	number := p.shuffled(more + 3)
	// copies is any state that stands for one.
	copies := func(state int) int {
		if state == -1 {
			return p.pick([]int{-1, number[dead], number[dead+1]})
		}
		return number[state+states*p.below(times)]
	}
	var out api.Dfa
	var from []int
	for i, part := range d.Parts {
		cut := p.sets(2)
		for _, some := range [][]api.Span{set.Inter(part, cut[0]), set.Minus(part, cut[0]), nil} {
			out.Parts, from = append(out.Parts, some), append(from, i)
		}
	}
	out.Next, out.Tags = make([][]int, len(number)), make([]int, len(number))
	for i := range number {
		var row []int
		for place, part := range out.Parts {
			switch {
			case len(part) == 0 || i >= more:
				row = append(row, p.below(len(number)))
			case i >= dead:
				row = append(row, copies(-1))
			default:
				row = append(row, copies(d.Next[i%states][from[place]]))
			}
		}
		tag := -1
		switch {
		case i >= more:
			tag = p.below(4) - 1
		case i < dead:
			tag = d.Tags[i%states]
		}
		out.Next[number[i]], out.Tags[number[i]] = row, tag
	}
	return p.mixed(out)
}

// mixed is a machine with its parts in another order.
func (p *picker) mixed(d api.Dfa) api.Dfa {
	out := api.Dfa{Next: make([][]int, len(d.Next)), Tags: d.Tags}
	order := p.shuffled(len(d.Parts))
	slices.Reverse(order)
	for _, i := range order {
		out.Parts = append(out.Parts, d.Parts[i])
		for from, row := range d.Next {
			out.Next[from] = append(out.Next[from], row[i])
		}
	}
	return out
}

// TestTheSame: machines that tell the same have the same least one, however they were made.
func TestTheSame(t *testing.T) {
	p := picker(3)
	for range 4000 {
		d := p.machine(1 + p.below(7))
		want := expectLeast(t, d)
		other := p.longer(d)
		if got, e := least.Of(other); e != api.OK || !same(got, want) {
			t.Fatalf("of %s: %d, %s, want %s, as of %s", brief(other), e, brief(got), brief(want), brief(d))
		}
	}
}

// TestLongest: of any text the least machine tells the same front as the machine (T1).
func TestLongest(t *testing.T) {
	p := picker(5)
	lengths := make([]int, 9)
	for range 3000 {
		d := p.machine(1 + p.below(12))
		m := expectLeast(t, d)
		for range 8 {
			var s []int
			for range p.below(9) {
				s = append(s, 'a'+p.below(13))
			}
			length, tag := dfa.Longest(d, s)
			if k, got := dfa.Longest(m, s); k != length || got != tag {
				t.Fatalf("%s by %v: %d, %d, want %d, %d, as %s", brief(m), s, k, got, length, tag, brief(d))
			}
			lengths[length]++
		}
	}
	if slices.Min(lengths) < 50 {
		t.Errorf("fronts of each length: %v", lengths)
	}
}

// node is any node that is sound, of no more than some levels.
func (p *picker) node(levels int) api.Node {
	kind := uint8(p.below(5))
	if levels == 0 {
		kind = api.Chars
	}
	n := api.Node{Kind: kind}
	switch kind {
	case api.Chars:
		lo := 'a' + p.below(4)
		n.Set = spans(lo, lo+p.below(3))
	case api.Cat, api.Or:
		n.Kids = []api.Node{p.node(levels - 1), p.node(levels - 1)}
	case api.Rep:
		n.Kids = []api.Node{p.node(levels - 1)}
		n.Min = p.below(3)
		n.Max = n.Min + 1
		if p.below(2) == 0 {
			n.Max = -1
		}
	}
	return n
}

// TestManyPatterns holds machines of any patterns against the words, and what they tell against what theirs tell.
func TestManyPatterns(t *testing.T) {
	p := picker(7)
	fewer := 0
	for range 1000 {
		var l []api.Node
		for range 1 + p.below(4) {
			l = append(l, p.node(p.below(4)))
		}
		n, e := nfa.Build(l)
		if e != api.OK {
			continue
		}
		d, e := dfa.Of(n, 40)
		if e != api.OK {
			continue
		}
		m := expectLeast(t, d)
		if len(m.Tags) < len(d.Tags) {
			fewer++
		}
		if !slices.Equal(told(m, 0, []int{'a', 'd', 'f'}, 5), told(d, 0, []int{'a', 'd', 'f'}, 5)) {
			t.Fatalf("%s tells another thing than %s", brief(m), brief(d))
		}
	}
	if fewer < 200 {
		t.Errorf("only %d of 1000 machines have fewer states then", fewer)
	}
}
