package dfa_test

import (
	"slices"
	"strings"
	"testing"

	"glyphcutter/api"
	"glyphcutter/dfa"
)

// row is a machine of so many states that goes from each to the next one, and from the last to the first, by a; each has its own tag.
func row(states int) api.Nfa {
	n := api.Nfa{Free: make([][]int, states)}
	for i := range states {
		n.Edges = append(n.Edges, []api.Edge{{To: (i + 1) % states, Set: spans('a', 'a')}})
		n.Tags = append(n.Tags, i)
	}
	return n
}

// ring is what is made of such a row.
func ring(states int) api.Dfa {
	d := api.Dfa{Parts: [][]api.Span{spans('a', 'a')}}
	for i := range states {
		d.Next = append(d.Next, []int{(i + 1) % states})
		d.Tags = append(d.Tags, i)
	}
	return d
}

// TestMostStates: 2000 states, each by itself.
func TestMostStates(t *testing.T) {
	n, want := row(api.MaxStates), ring(api.MaxStates)
	if got, e := dfa.Of(n, api.MaxStates); e != api.OK || !same(got, want) {
		t.Errorf("2000 states: %d", e)
	}
	for _, most := range []int{1, 2, 255, 256, 257, 1000, 1999} {
		expectError(t, "2000 states", n, most, api.ErrLong)
	}
	s := slices.Repeat([]int{'a'}, 5999)
	expectLongest(t, "round and round", want, s, 5999, 1999)
}

// TestFarStates: pairs of states that are 256 apart, or nearly so, are told apart.
func TestFarStates(t *testing.T) {
	n := api.Nfa{Edges: make([][]api.Edge, 700), Free: make([][]int, 700), Tags: slices.Repeat([]int{-1}, 700)}
	for k := range 90 {
		for shift, r := range []int{k, 100 + k, 200 + k} {
			by := spans(r, r)
			n.Edges[0] = append(n.Edges[0], api.Edge{To: 256*shift + k, Set: by}, api.Edge{To: 256 + (k+shift)%90, Set: by})
		}
		n.Tags[k], n.Tags[256+k] = 90-k, 100
	}
	expectMade(t, n, nil)
}

// TestTooLong: T3: there may be far more states than can be gone through; it ends, and there is none.
func TestTooLong(t *testing.T) {
	for _, text := range []string{"(a|b)*a(a|b){20}", "(a|b)*a((a|b){9}){9}", "(.*a.{18}){3}"} {
		n := patterns(t, text)
		for _, most := range []int{1, 100, 2000} {
			expectError(t, text, n, most, api.ErrLong)
		}
	}
	// Just so many states as it says: each set of the last places at which an a may stand.
	for times, states := range []int{2, 4, 8, 16, 32, 64, 128, 256, 512, 1024} {
		text := "(a|b)*a" + strings.Repeat("(a|b)", times)
		n := patterns(t, text)
		d, e := dfa.Of(n, states+1)
		if e != api.OK || len(d.Tags) != states+1 || !dfa.Sound(d) {
			t.Errorf("%s: %d, %d states, want %d", text, e, len(d.Tags), states+1)
		}
		expectError(t, text, n, states, api.ErrLong)
	}
}

// TestManyFreeWays: each of 2000 states leads to each by nothing: the machine is at all of them, or nowhere.
func TestManyFreeWays(t *testing.T) {
	n := row(api.MaxStates)
	all := make([]int, api.MaxStates)
	for i := range all {
		all[i] = i
		n.Free[i] = all
	}
	n.Tags[0] = 5
	if got, e := dfa.Of(n, 1); e != api.OK || !same(got, api.Dfa{Parts: [][]api.Span{spans('a', 'a')}, Next: [][]int{{0}}, Tags: []int{1}}) {
		t.Errorf("each to each: %d, %v", e, got)
	}
}

// TestManyEdges: one state may have very many edges, with the same set or with sets of their own.
func TestManyEdges(t *testing.T) {
	n := many(t, "#0", "#1 ~0", "#2")
	n.Edges[0] = slices.Repeat([]api.Edge{{To: 1, Set: spans('a', 'a')}}, 100000)
	n.Edges[1] = slices.Repeat([]api.Edge{{To: 2, Set: spans('b', 'b')}}, 100000)
	expectOf(t, "the same edge", n, one(t, "a b", "1 . #0", "1 2 #0", ". . #2"))
	var apart []api.Edge
	for i := range 100000 {
		apart = append(apart, api.Edge{To: i % 3, Set: spans(2*i, 2*i)})
	}
	for i := range apart {
		if apart[i].Set[0].Lo >= api.LowGap {
			r := apart[i].Set[0].Lo + api.HighGap + 1 - api.LowGap
			apart[i].Set = spans(r, r)
		}
	}
	n.Edges[0], n.Edges[1] = apart, nil
	d, e := dfa.Of(n, 3)
	if e != api.OK || len(d.Parts) != len(apart) || len(d.Tags) != 3 {
		t.Fatalf("100000 parts: %d, %d parts, %d states", e, len(d.Parts), len(d.Tags))
	}
	for i, to := range d.Next[0] {
		if to != i%3 {
			t.Fatalf("by the part %d to %d", i, to)
		}
	}
	if dfa.Sound(d) {
		t.Error("Sound, though there are more than 2000 parts")
	}
}

// TestManyParts: 2000 states by 2000 parts, each of which leads on from one state alone.
func TestManyParts(t *testing.T) {
	n := row(api.MaxStates)
	for i := range n.Edges {
		n.Edges[i][0].Set = spans(3*i, 3*i)
	}
	d := made(t, n)
	if len(d.Parts) != 2000 || len(d.Tags) != 2000 || !dfa.Sound(d) {
		t.Fatalf("%d parts, %d states", len(d.Parts), len(d.Tags))
	}
	var s []int
	for i := range 2000 {
		s = append(s, 3*i)
		if d.Next[i][i] != (i+1)%2000 || d.Next[i][(i+1)%2000] != -1 || d.Tags[i] != i {
			t.Fatalf("state %d", i)
		}
	}
	expectLongest(t, "once round", d, s, 2000, 0)
	expectLongest(t, "once round, and what leads on from elsewhere", d, append(s, 3), 2000, 0)
	expectLongest(t, "beside the parts", d, append(s[:7], 22), 7, 7)
}

// TestLongTexts: long texts come to an end, and where it goes nowhere the rest is not gone through.
func TestLongTexts(t *testing.T) {
	d := made(t, patterns(t, "a+b", "a", "[a-z]{0,20}"))
	long := slices.Repeat([]int{'a'}, api.MaxBytes)
	long[api.MaxBytes-1] = 'b'
	expectLongest(t, "all of it", d, long, api.MaxBytes, 0)
	long[api.MaxBytes-1] = 'c'
	expectLongest(t, "back to far ahead", d, long, 20, 2)
	expectLongest(t, "very many", d, slices.Repeat([]int{'b'}, 1<<22), 20, 2)
	wide := plain(1, api.MaxStates)
	wide.Tags[0] = 3
	for i := range wide.Next[0] {
		wide.Next[0][i] = 0
	}
	expectLongest(t, "very many parts", wide, slices.Repeat([]int{3998, 0, 1998}, 1<<20), 3<<20, 3)
}
