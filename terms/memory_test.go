package terms_test

import (
	"slices"
	"testing"

	"glyphcutter/api"
	"glyphcutter/terms"
)

// room is a copy of a list that has some others behind its length in its memory.
func room[T any](l []T, others ...T) []T {
	return append(slices.Clone(l), others...)[:len(l)]
}

// whole is a list with all that lies in its memory.
func whole[T any](l []T) []T { return l[:cap(l)] }

// roomy is a copy of lists that shares no memory with them, and has others behind their lengths in their memory.
func roomy(l [][]api.Span) [][]api.Span {
	var out [][]api.Span
	for _, s := range l {
		out = append(out, room(s, api.Span{Lo: 0, Hi: 'z'}, api.Span{Lo: 3, Hi: 2}))
	}
	return room(out, spans(0, 7), spans(4, 4))
}

// sameRoom says whether lists are alike, with what lies behind them.
func sameRoom(x, y [][]api.Span) bool {
	same := func(a, b []api.Span) bool { return slices.Equal(whole(a), whole(b)) }
	return slices.EqualFunc(whole(x), whole(y), same)
}

// someLists tempt a call to hand on what it was given: most of them are parts already.
func someLists() [][][]api.Span {
	return [][][]api.Span{
		lists(spans(0, 9), spans(5, 20)),
		lists(spans(0, 9)),
		lists(spans(0, 4), spans(5, 9), spans(10, 20)),
		lists(spans(7, 9, 3, 2, 0, 1), nil, spans(1, 1, 8, 8)),
		lists(nil, spans('a', 'z')),
		nil,
	}
}

// TestArgumentsStay: R2: what is handed in is not changed, what lies behind a list's length is neither read nor written.
func TestArgumentsStay(t *testing.T) {
	for _, l := range someLists() {
		for _, s := range lists(nil, spans(6, 7), spans(20, 30, 8, 8, 2, 1, 0, 0)) {
			mine, kept := roomy(l), roomy(l)
			of := room(s, spans(0, 99, 5, 5)...)
			keptOf := slices.Clone(whole(of))
			expectParts(t, "Of with memory behind the lists", terms.Of(mine), terms.Of(l)...)
			expectPlaces(t, "Parts with memory behind the lists", terms.Parts(mine, of), terms.Parts(l, s)...)
			for _, r := range []int{0, 3, 6, 8, 25, 'y'} {
				if got, want := terms.Which(mine, r), terms.Which(l, r); got != want {
					t.Errorf("Which with memory behind the lists: %d, want %d", got, want)
				}
			}
			if !sameRoom(mine, kept) || !slices.Equal(whole(of), keptOf) {
				t.Errorf("%x, %x: something was changed", l, s)
			}
		}
	}
}

// TestNewMemory: R2: who writes into an answer, up to its capacity, changes neither what was handed in nor another answer, nor another list of it; and nothing is kept.
func TestNewMemory(t *testing.T) {
	for _, l := range someLists() {
		mine, kept := roomy(l), roomy(l)
		want := terms.Of(l)
		first, second := terms.Of(mine), terms.Of(mine)
		for i := range first {
			for k := range whole(first[i]) {
				whole(first[i])[k] = api.Span{Lo: -7, Hi: 77}
			}
			if later := first[i+1:]; !slices.EqualFunc(later, want[i+1:], slices.Equal[[]api.Span]) {
				t.Errorf("%x: parts share memory", l)
			}
		}
		clear(whole(first))
		if !sameRoom(mine, kept) {
			t.Errorf("%x: an answer shares memory with what was handed in", l)
		}
		expectParts(t, "another answer", second, want...)
		for i := range mine {
			clear(mine[i])
		}
		clear(mine)
		expectParts(t, "when what was handed in is gone", second, want...)
		expectParts(t, "asked anew", terms.Of(l), want...)
	}
}

// TestNewPlaces: the same of the answers of Parts.
func TestNewPlaces(t *testing.T) {
	parts := lists(spans(0, 4), spans(5, 9), spans(10, 20))
	first, second := terms.Parts(parts, spans(4, 9)), terms.Parts(parts, spans(4, 9))
	for i := range whole(first) {
		whole(first)[i] = -1
	}
	expectPlaces(t, "another answer", second, 0, 1)
	expectPlaces(t, "asked anew", terms.Parts(parts, spans(4, 9)), 0, 1)
}

// TestNoLists: a list that is nil and one that is empty are the same thing (R6).
func TestNoLists(t *testing.T) {
	none, empty := lists(nil, spans(1, 2)), lists([]api.Span{}, spans(1, 2))
	expectParts(t, "an empty list", terms.Of(empty), terms.Of(none)...)
	expectParts(t, "empty lists", terms.Of([][]api.Span{}))
	expectPlaces(t, "Parts of an empty list", terms.Parts(empty, spans(1, 1)), 1)
	expectPlaces(t, "Parts of nothing", terms.Parts(none, []api.Span{}))
	expectPlaces(t, "Parts of empty lists", terms.Parts([][]api.Span{}, spans(0, 9)))
	expectWhich(t, "an empty list", empty, 1, 1, 0, -1)
	expectWhich(t, "empty lists", [][]api.Span{}, 1, -1)
}
