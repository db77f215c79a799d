package nfa_test

import (
	"math"
	"slices"
	"testing"

	"glyphcutter/api"
	"glyphcutter/nfa"
	"glyphcutter/set"
)

// bare is a machine of so many states, from which nothing leads anywhere.
func bare(states int) api.Nfa {
	n := api.Nfa{Edges: make([][]api.Edge, states), Free: make([][]int, states), Tags: make([]int, states)}
	for i := range n.Tags {
		n.Tags[i] = -1
	}
	return n
}

func expectSound(t *testing.T, what string, n api.Nfa, want bool) {
	t.Helper()
	if nfa.Sound(n) != want {
		t.Errorf("%s: Sound is not %t", what, want)
	}
}

func TestSoundByStates(t *testing.T) {
	expectSound(t, "nothing", api.Nfa{}, false)
	expectSound(t, "no states", bare(0), false)
	for _, states := range []int{1, 2, 30, 1999, 2000} {
		expectSound(t, "some states", bare(states), true)
	}
	for _, states := range []int{2001, 2002, 4000, 100000} {
		expectSound(t, "too many states", bare(states), false)
	}
}

// TestSoundByLengths: all three lists are as many.
func TestSoundByLengths(t *testing.T) {
	for edges := range 4 {
		for free := range 4 {
			for tags := range 4 {
				n := api.Nfa{Edges: bare(edges).Edges, Free: bare(free).Free, Tags: bare(tags).Tags}
				expectSound(t, "lists", n, edges == free && free == tags && tags > 0)
			}
		}
	}
	for _, long := range []int{1999, 2001, 3000} {
		for _, n := range []api.Nfa{
			{Edges: bare(long).Edges, Free: bare(2000).Free, Tags: bare(2000).Tags},
			{Edges: bare(2000).Edges, Free: bare(long).Free, Tags: bare(2000).Tags},
			{Edges: bare(2000).Edges, Free: bare(2000).Free, Tags: bare(long).Tags},
		} {
			expectSound(t, "one list of another length", n, false)
		}
	}
}

func TestSoundByTags(t *testing.T) {
	for _, tag := range []int{-1, 0, 1, 29, 30, 2000, 1 << 40, math.MaxInt} {
		for place := range 3 {
			n := bare(3)
			n.Tags[place] = tag
			expectSound(t, "a tag", n, true)
		}
	}
	for _, tag := range []int{-2, -3, -1 << 40, math.MinInt} {
		for place := range 3 {
			n := bare(3)
			n.Tags[place] = tag
			expectSound(t, "a tag below -1", n, false)
		}
	}
}

// TestSoundByPlaces: each way leads to a state, whichever way it is, from wherever it leads.
func TestSoundByPlaces(t *testing.T) {
	for _, states := range []int{1, 2, 5, 2000} {
		for _, to := range []int{0, states / 2, states - 1, states, states + 1, -1, -2, 2001, math.MaxInt, math.MinInt} {
			want := 0 <= to && to < states
			for _, from := range []int{0, states / 2, states - 1} {
				for _, ahead := range []int{0, 1, 3} {
					n := bare(states)
					n.Free[from] = append(make([]int, ahead), to, 0)
					expectSound(t, "a free way", n, want)
					n.Free[from] = append(make([]int, ahead), to)
					expectSound(t, "a free way, the last", n, want)
					n = bare(states)
					n.Edges[from] = append(make([]api.Edge, ahead), api.Edge{To: to, Set: spans('a', 'a')}, api.Edge{})
					expectSound(t, "an edge", n, want)
					n.Edges[from] = append(make([]api.Edge, ahead), api.Edge{To: to})
					expectSound(t, "an edge, the last", n, want)
				}
			}
		}
	}
}

// expectSet holds a machine with an edge by some spans against what a set is: one that is as set.Norm makes it.
func expectSet(t *testing.T, l []api.Span) {
	t.Helper()
	want := slices.Equal(set.Norm(l), l)
	for _, states := range []int{1, 3} {
		n := bare(states)
		n.Edges[states-1] = []api.Edge{{Set: spans('a', 'z')}, {Set: l}, {}}
		if nfa.Sound(n) != want {
			t.Fatalf("an edge by %v: Sound is not %t", l, want)
		}
	}
}

// TestSoundBySets holds all pairs of spans with ends where something changes against what a set is.
func TestSoundBySets(t *testing.T) {
	ends := []int{math.MinInt, -2, -1, 0, 1, 2, 3, 4, 0xd7fe, 0xd7ff, 0xd800, 0xd801, 0xdffe, 0xdfff, 0xe000, 0xe001, 0x10fffe, 0x10ffff, 0x110000, 0x110001, math.MaxInt - 1, math.MaxInt}
	expectSet(t, nil)
	expectSet(t, []api.Span{})
	for _, lo := range ends {
		for _, hi := range ends {
			expectSet(t, spans(lo, hi))
			for _, lo2 := range ends {
				for _, hi2 := range ends {
					expectSet(t, spans(lo, hi, lo2, hi2))
				}
			}
		}
	}
}

// TestSoundByRowsOfSpans holds rows of small spans, in order or not, against what a set is.
func TestSoundByRowsOfSpans(t *testing.T) {
	for n := range 1 << 15 {
		var l []api.Span
		at := n & 1
		for rest := n >> 1; rest > 0; rest >>= 4 {
			lo := at + rest&3 - 1
			hi := lo + rest>>2&3 - 1
			l = append(l, api.Span{Lo: lo, Hi: hi})
			at = hi + 2
		}
		expectSet(t, l)
	}
	var long []api.Span
	for r := 0; r < 3000; r += 3 {
		long = append(long, api.Span{Lo: r, Hi: r + 1})
	}
	expectSet(t, long)
	long[999].Lo--
	expectSet(t, long)
}

// TestSoundStays: what is asked for is not changed, what lies behind its lists' lengths is not read.
func TestSoundStays(t *testing.T) {
	n := bare(3)
	n.Free[1] = []int{2, 0, 7, -9}[:2]
	n.Edges[2] = []api.Edge{{To: 1, Set: spans(1, 2, 2, 1)[:1]}, {To: 9}}[:1]
	n.Tags = append(n.Tags, -7)[:3]
	n.Edges = append(n.Edges, []api.Edge{{To: -1}})[:3]
	n.Free = append(n.Free, []int{-1})[:3]
	expectSound(t, "wrong ones behind the lists' lengths", n, true)
	if shown(n) != "0:, 1: ~2 ~0, 2: \u0001-\u0002>1" || n.Free[1][:4][3] != -9 || n.Tags[:4][3] != -7 || n.Edges[2][:2][1].To != 9 {
		t.Error("it was changed")
	}
}
