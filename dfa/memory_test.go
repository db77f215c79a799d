package dfa_test

import (
	"slices"
	"testing"

	"glyphcutter/api"
	"glyphcutter/dfa"
)

// room is a copy of a list that has some others behind its length in its memory.
func room[T any](l []T, others ...T) []T {
	return append(slices.Clone(l), others...)[:len(l)]
}

// whole is a list with all that lies in its memory.
func whole[T any](l []T) []T { return l[:cap(l)] }

// roomy is a copy of a machine that shares no memory with it, and has others behind its lists' lengths in their memory.
func roomy(n api.Nfa) api.Nfa {
	out := api.Nfa{Tags: room(n.Tags, 6, -9)}
	for i := range n.Edges {
		var edges []api.Edge
		for _, e := range n.Edges[i] {
			edges = append(edges, api.Edge{To: e.To, Set: room(e.Set, api.Span{Lo: 0, Hi: 'z'})})
		}
		out.Edges = append(out.Edges, room(edges, api.Edge{To: 1, Set: spans(0, 0x10ffff)}, api.Edge{To: -3}))
	}
	for _, ways := range n.Free {
		out.Free = append(out.Free, room(ways, 0, 1, 99))
	}
	out.Edges = room(out.Edges, []api.Edge{{To: 1}})
	out.Free = room(out.Free, []int{1, 99})
	return out
}

// sameRoom says whether two machines are alike, with what lies behind their lists.
func sameRoom(x, y api.Nfa) bool {
	sameEdge := func(e, f api.Edge) bool { return e.To == f.To && slices.Equal(whole(e.Set), whole(f.Set)) }
	sameEdges := func(k, l []api.Edge) bool { return slices.EqualFunc(whole(k), whole(l), sameEdge) }
	sameWays := func(k, l []int) bool { return slices.Equal(whole(k), whole(l)) }
	return slices.EqualFunc(whole(x.Edges), whole(y.Edges), sameEdges) && slices.EqualFunc(whole(x.Free), whole(y.Free), sameWays) && slices.Equal(whole(x.Tags), whole(y.Tags))
}

// roomyOne is the same of a machine that goes one way.
func roomyOne(d api.Dfa) api.Dfa {
	out := api.Dfa{Tags: room(d.Tags, 7, -5)}
	for _, part := range d.Parts {
		out.Parts = append(out.Parts, room(part, api.Span{Lo: 0, Hi: 'z'}, api.Span{Lo: 3, Hi: 2}))
	}
	for _, row := range d.Next {
		out.Next = append(out.Next, room(row, 0, -7))
	}
	out.Parts = room(out.Parts, spans(0, 0x10ffff), spans('a', 'a'))
	out.Next = room(out.Next, []int{0}, nil)
	return out
}

// sameRoomOne is the same of two of these.
func sameRoomOne(x, y api.Dfa) bool {
	sameParts := func(k, l []api.Span) bool { return slices.Equal(whole(k), whole(l)) }
	sameRows := func(k, l []int) bool { return slices.Equal(whole(k), whole(l)) }
	return slices.EqualFunc(whole(x.Parts), whole(y.Parts), sameParts) && slices.EqualFunc(whole(x.Next), whole(y.Next), sameRows) && slices.Equal(whole(x.Tags), whole(y.Tags))
}

// someMachines are right ones and wrong ones.
func someMachines(t *testing.T) []api.Nfa {
	t.Helper()
	wrong := many(t, "a>0", "")
	wrong.Tags[1] = -2
	return []api.Nfa{
		many(t, "~1 a>1 #2", "b>0 #0"),
		many(t, "a-c>2 b>1 ~2", "~0 #4", "#1 a>1 >1"),
		many(t, ""),
		many(t, "a>0 a>1 #1", "b>1 ~1 #0"),
		patterns(t, "a", "a*", "(a|b){2,3}"),
		wrong,
		{},
	}
}

// TestArgumentsStay: R2: what is handed in is not changed, what lies behind a list's length is neither read nor written.
func TestArgumentsStay(t *testing.T) {
	for _, n := range someMachines(t) {
		for _, most := range []int{0, 1, 2, 3, 2000} {
			mine := roomy(n)
			want, e := dfa.Of(n, most)
			got, f := dfa.Of(mine, most)
			if e != f || !same(got, want) {
				t.Errorf("%v: what lies behind the lists is read: %v, want %v", n, got, want)
			}
			if !sameRoom(mine, roomy(n)) {
				t.Errorf("%v: it was changed", n)
			}
		}
	}
}

// someOnes are machines that go one way, right ones and wrong ones.
func someOnes(t *testing.T) []api.Dfa {
	t.Helper()
	return []api.Dfa{
		made(t, patterns(t, "a", "a*", "(a|b){2,3}")),
		one(t, "c a,d b", ". 1 . #3", ". . 2 #0", "0 1 2 #7"),
		one(t, "", "#1"),
		one(t, "a", "0 #1", "2 #0"),
		one(t, "a b", "0 #1"),
		one(t, "a-b b", "0 0 #1"),
		{},
	}
}

// TestArgumentsStayOne: the same of Sound and Longest.
func TestArgumentsStayOne(t *testing.T) {
	for _, d := range someOnes(t) {
		for _, text := range []string{"", "a", "ba", "abbaab", "dbc"} {
			s := scalars(text)
			mine, letters := roomyOne(d), room(s, 'a', 'b', 'c')
			kept := slices.Clone(whole(letters))
			if dfa.Sound(mine) != dfa.Sound(d) {
				t.Errorf("%v: Sound reads what lies behind the lists", d)
			}
			k, tag := dfa.Longest(d, s)
			expectLongest(t, "with memory behind the lists", mine, letters, k, tag)
			if !sameRoomOne(mine, roomyOne(d)) || !slices.Equal(whole(letters), kept) {
				t.Errorf("%v by %q: something was changed", d, text)
			}
		}
	}
}

// spoil writes into all that a machine has, up to the capacities.
func spoil(d api.Dfa) {
	for _, part := range d.Parts {
		for i := range whole(part) {
			whole(part)[i] = api.Span{Lo: -7, Hi: 77}
		}
	}
	for _, row := range d.Next {
		for i := range whole(row) {
			whole(row)[i] = -77
		}
	}
	for i := range whole(d.Tags) {
		whole(d.Tags)[i] = -77
	}
	clear(whole(d.Parts))
	clear(whole(d.Next))
}

// TestNewMemory: R2: who writes into an answer, up to its capacity, changes neither what was handed in nor another answer; and nothing is kept.
func TestNewMemory(t *testing.T) {
	for _, n := range someMachines(t) {
		mine := roomy(n)
		want, _ := dfa.Of(n, 2000)
		first, _ := dfa.Of(mine, 2000)
		second, _ := dfa.Of(mine, 2000)
		spoil(first)
		if !sameRoom(mine, roomy(n)) {
			t.Errorf("%v: an answer shares memory with what was handed in", n)
		}
		if !same(second, want) {
			t.Errorf("%v: two answers share memory", n)
		}
		if third, _ := dfa.Of(mine, 2000); !same(third, want) {
			t.Errorf("%v: an answer is kept", n)
		}
		for _, edges := range mine.Edges {
			for _, e := range edges {
				clear(e.Set)
			}
			clear(edges)
		}
		clear(mine.Edges)
		clear(mine.Free)
		clear(mine.Tags)
		if !same(second, want) {
			t.Errorf("%v: an answer shares memory with what was handed in", n)
		}
	}
}

// TestListsApart: no two lists of one answer share memory.
func TestListsApart(t *testing.T) {
	for _, n := range someMachines(t) {
		d, _ := dfa.Of(n, 2000)
		want, _ := dfa.Of(n, 2000)
		for i := range d.Next {
			for k := range whole(d.Next[i]) {
				whole(d.Next[i])[k] = -77
			}
			if !slices.EqualFunc(d.Next[i+1:], want.Next[i+1:], slices.Equal[[]int]) {
				t.Errorf("%v: rows share memory", n)
			}
		}
		if !slices.Equal(d.Tags, want.Tags) {
			t.Errorf("%v: tags and rows share memory", n)
		}
		for i := range d.Parts {
			for k := range whole(d.Parts[i]) {
				whole(d.Parts[i])[k] = api.Span{}
			}
			if !slices.EqualFunc(d.Parts[i+1:], want.Parts[i+1:], slices.Equal[[]api.Span]) {
				t.Errorf("%v: parts share memory", n)
			}
		}
	}
}

// TestNoLists: a list that is nil and one that is empty are the same thing (R6).
func TestNoLists(t *testing.T) {
	bare := api.Nfa{Edges: [][]api.Edge{{{To: 0}, {To: 1, Set: spans('a', 'a')}}, nil}, Free: [][]int{nil, nil}, Tags: []int{-1, 3}}
	full := api.Nfa{Edges: [][]api.Edge{{{To: 0, Set: []api.Span{}}, {To: 1, Set: spans('a', 'a')}}, {}}, Free: [][]int{{}, {}}, Tags: []int{-1, 3}}
	for _, n := range []api.Nfa{bare, full} {
		expectOf(t, "nil or empty", n, one(t, "a", "1", ". #3"))
	}
	expectError(t, "empty lists", api.Nfa{Edges: [][]api.Edge{}, Free: [][]int{}, Tags: []int{}}, 1, api.ErrArg)
	expectSound(t, "empty lists", api.Dfa{Parts: [][]api.Span{}, Next: [][]int{}, Tags: []int{}}, false)
	for _, d := range []api.Dfa{
		{Next: [][]int{nil}, Tags: []int{2}},
		{Parts: [][]api.Span{}, Next: [][]int{{}}, Tags: []int{2}},
	} {
		expectSound(t, "no parts", d, true)
	}
	for _, empty := range [][]api.Span{nil, {}} {
		d := api.Dfa{Parts: [][]api.Span{empty, spans('a', 'a')}, Next: [][]int{{-1, 0}}, Tags: []int{2}}
		expectSound(t, "a part of nothing", d, true)
		expectLongest(t, "a part of nothing", d, scalars("ab"), 1, 2)
		expectLongest(t, "by nothing", d, nil, 0, -1)
		expectLongest(t, "by an empty list", d, []int{}, 0, -1)
	}
}
