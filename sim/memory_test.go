package sim_test

import (
	"slices"
	"testing"

	"glyphcutter/api"
	"glyphcutter/nfa"
	"glyphcutter/sim"
)

// room is a copy of a list that has some others behind its length in its memory.
func room[T any](l []T, others ...T) []T {
	return append(slices.Clone(l), others...)[:len(l)]
}

// whole is a list with all that lies in its memory.
func whole[T any](l []T) []T { return l[:cap(l)] }

// roomy is a copy of a machine that shares no memory with it, and has others behind its lists' lengths in their memory.
func roomy(n api.Nfa) api.Nfa {
	out := api.Nfa{Tags: room(n.Tags, 6, -9)}
	for i := range n.Tags {
		var edges []api.Edge
		for _, e := range n.Edges[i] {
			edges = append(edges, api.Edge{To: e.To, Set: room(e.Set, api.Span{Lo: 0, Hi: 'z'})})
		}
		out.Edges = append(out.Edges, room(edges, api.Edge{To: 1, Set: spans(0, 0x10ffff)}, api.Edge{To: -3}))
		out.Free = append(out.Free, room(n.Free[i], 0, 1, 99))
	}
	out.Edges = room(out.Edges, []api.Edge{{To: 1}})
	out.Free = room(out.Free, []int{1, 99})
	return out
}

// sameRoom says whether two machines are alike, with what lies behind their lists.
func sameRoom(x, y api.Nfa) bool {
	sameEdge := func(e, f api.Edge) bool { return e.To == f.To && slices.Equal(whole(e.Set), whole(f.Set)) }
	sameEdges := func(k, l []api.Edge) bool { return slices.EqualFunc(whole(k), whole(l), sameEdge) }
	sameWays := func(k, l []int) bool { return slices.Equal(whole(k), whole(l)) }
	return slices.EqualFunc(whole(x.Edges), whole(y.Edges), sameEdges) && slices.EqualFunc(whole(x.Free), whole(y.Free), sameWays) && slices.Equal(whole(x.Tags), whole(y.Tags))
}

// answers is what all calls answer of a machine at some places, by a text.
func answers(n api.Nfa, at, s []int) [][]int {
	length, tag := sim.Longest(n, s)
	return [][]int{sim.Start(n), sim.Step(n, at, s[0]), sim.Tags(n, at), {length, tag}}
}

// someMachines are right ones and wrong ones.
func someMachines(t *testing.T) []api.Nfa {
	t.Helper()
	out := []api.Nfa{
		machine(t, "~1 a>1 #2", "b>0 #0"),
		machine(t, "a-c>2 b>1 ~2", "~0 #4", "#1 >1"),
		machine(t, ""),
		patterns(t, "a", "a*", "(a|b){2,3}"),
	}
	for _, n := range unsound() {
		if len(n.Tags) == len(n.Edges) && len(n.Tags) == len(n.Free) && len(n.Tags) < 10 {
			out = append(out, n)
		}
	}
	return out
}

// TestArgumentsStay: R2: what is handed in is not changed, what lies behind a list's length is neither read nor written.
func TestArgumentsStay(t *testing.T) {
	for _, n := range someMachines(t) {
		for _, at := range [][]int{nil, {1}, {1, 0, 1, -4, 2, 0}, {2, 1, 0}} {
			for _, text := range []string{"a", "ba", "abbaab"} {
				s := scalars(text)
				mine, places, letters := roomy(n), room(at, 0, 1, 2), room(s, 'a', 'b', 'a')
				keptPlaces, keptLetters := slices.Clone(whole(places)), slices.Clone(whole(letters))
				want, got := answers(n, at, s), answers(mine, places, letters)
				if !slices.EqualFunc(got, want, slices.Equal[[]int]) {
					t.Errorf("%v at %v by %q: what lies behind the lists is read: %v, want %v", n, at, text, got, want)
				}
				if !sameRoom(mine, roomy(n)) || !slices.Equal(whole(places), keptPlaces) || !slices.Equal(whole(letters), keptLetters) {
					t.Errorf("%v at %v by %q: something was changed", n, at, text)
				}
			}
		}
	}
}

// TestNewMemory: R2: who writes into an answer, up to its capacity, changes neither what was handed in nor another answer; and nothing is kept.
func TestNewMemory(t *testing.T) {
	for _, n := range someMachines(t) {
		at, s := []int{0, 1}, scalars("aab")
		mine, places := roomy(n), room(at, 5)
		kept := slices.Clone(whole(places))
		first, second := answers(mine, places, s), answers(mine, places, s)
		want := answers(n, at, s)
		for _, l := range first {
			for i := range whole(l) {
				whole(l)[i] = -77
			}
		}
		if !sameRoom(mine, roomy(n)) || !slices.Equal(whole(places), kept) {
			t.Errorf("%v: an answer shares memory with what was handed in", n)
		}
		if !slices.EqualFunc(second, want, slices.Equal[[]int]) {
			t.Errorf("%v: two answers share memory", n)
		}
		if third := answers(mine, places, s); !slices.EqualFunc(third, want, slices.Equal[[]int]) {
			t.Errorf("%v: an answer is kept", n)
		}
		clear(mine.Tags)
		clear(mine.Edges)
		clear(mine.Free)
		clear(places)
		if !slices.EqualFunc(second, want, slices.Equal[[]int]) {
			t.Errorf("%v: an answer shares memory with what was handed in", n)
		}
	}
}

// TestStepInto: where a machine is may be handed in again and again.
func TestStepInto(t *testing.T) {
	n := patterns(t, "(ab)*", "a(b|c)")
	at := sim.Start(n)
	for _, r := range scalars("ababab") {
		kept := slices.Clone(at)
		next := sim.Step(n, at, r)
		if !slices.Equal(at, kept) {
			t.Fatal("the states that were handed in were changed")
		}
		at = next
	}
	expectList(t, "behind ababab", sim.Tags(n, at), 0)
}

// TestNoLists: a list that is nil and one that is empty are the same thing (R6).
func TestNoLists(t *testing.T) {
	bare := api.Nfa{Edges: [][]api.Edge{{{To: 0}, {To: 1, Set: spans('a', 'a')}}, nil}, Free: [][]int{nil, nil}, Tags: []int{-1, 3}}
	full := api.Nfa{Edges: [][]api.Edge{{{To: 0, Set: []api.Span{}}, {To: 1, Set: spans('a', 'a')}}, {}}, Free: [][]int{{}, {}}, Tags: []int{-1, 3}}
	if !nfa.Sound(bare) || !nfa.Sound(full) {
		t.Fatal("not Sound")
	}
	for _, at := range [][]int{nil, {}, {0}, {0, 1}} {
		if got, want := answers(full, at, scalars("ab")), answers(bare, at, scalars("ab")); !slices.EqualFunc(got, want, slices.Equal[[]int]) {
			t.Errorf("at %v: %v, want %v", at, got, want)
		}
	}
	for _, s := range [][]int{nil, {}} {
		if k, tag := sim.Longest(bare, s); k != 0 || tag != -1 {
			t.Errorf("by nothing: %d, %d", k, tag)
		}
	}
	if n := (api.Nfa{Edges: [][]api.Edge{}, Free: [][]int{}, Tags: []int{}}); len(sim.Start(n)) != 0 {
		t.Error("empty lists have no states")
	}
}
