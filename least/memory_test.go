package least_test

import (
	"slices"
	"testing"

	"glyphcutter/api"
	"glyphcutter/least"
)

// room is a copy of a list that has some others behind its length in its memory.
func room[T any](l []T, others ...T) []T {
	return append(slices.Clone(l), others...)[:len(l)]
}

// whole is a list with all that lies in its memory.
func whole[T any](l []T) []T { return l[:cap(l)] }

// roomy is a copy of a machine that shares no memory with it, and has others behind its lists' lengths in their memory.
func roomy(d api.Dfa) api.Dfa {
	out := api.Dfa{Tags: room(d.Tags, 7, -5)}
	for _, part := range d.Parts {
		out.Parts = append(out.Parts, room(part, api.Span{Lo: 0, Hi: 'z'}, api.Span{Lo: 3, Hi: 2}))
	}
	for _, row := range d.Next {
		out.Next = append(out.Next, room(row, 0, -7))
	}
	out.Parts = room(out.Parts, spans(0, 0x10ffff), spans('a', 'a'))
	out.Next = room(out.Next, []int{0}, nil)
	return out
}

// sameRoom says whether two machines are alike, with what lies behind their lists.
func sameRoom(x, y api.Dfa) bool {
	sameParts := func(k, l []api.Span) bool { return slices.Equal(whole(k), whole(l)) }
	sameRows := func(k, l []int) bool { return slices.Equal(whole(k), whole(l)) }
	return slices.EqualFunc(whole(x.Parts), whole(y.Parts), sameParts) && slices.EqualFunc(whole(x.Next), whole(y.Next), sameRows) && slices.Equal(whole(x.Tags), whole(y.Tags))
}

// someMachines are right ones, least ones among them, and wrong ones.
func someMachines(t *testing.T) []api.Dfa {
	t.Helper()
	wrong := one(t, "a", "0 #1")
	wrong.Tags[0] = -2
	return []api.Dfa{
		patterns(t, "a", "a*", "(a|b){2,3}"),
		patterns(t, "ab|cb"),
		one(t, "c a,d b", ". 1 . #3", ". . 2 #0", "0 1 2 #7"),
		one(t, "a b", "1 0", ". 1 #0"),
		one(t, "b - a", "2 1 2", "2 2 2 #3", "1 0 1 #3"),
		one(t, "", "#1"),
		one(t, "a", "0 #1", "2 #0", "1"),
		one(t, "a b", "0 1", "1 0"),
		wrong,
		{},
	}
}

// TestArgumentsStay: R2: what is handed in is not changed, and what lies behind a list's length is neither read nor written.
func TestArgumentsStay(t *testing.T) {
	for _, d := range someMachines(t) {
		mine := roomy(d)
		want, e := least.Of(d)
		got, f := least.Of(mine)
		if e != f || !same(got, want) {
			t.Errorf("%v: what lies behind the lists is read: %v, want %v", d, got, want)
		}
		if !sameRoom(mine, roomy(d)) {
			t.Errorf("%v: it was changed", d)
		}
	}
}

// spoil writes into all that a machine has, up to the capacities.
func spoil(d api.Dfa) {
	for _, part := range d.Parts {
		for i := range whole(part) {
			whole(part)[i] = api.Span{Lo: -7, Hi: 77}
		}
	}
	for _, row := range d.Next {
		for i := range whole(row) {
			whole(row)[i] = -77
		}
	}
	for i := range whole(d.Tags) {
		whole(d.Tags)[i] = -77
	}
	clear(whole(d.Parts))
	clear(whole(d.Next))
}

// TestNewMemory: R2: who writes into an answer, up to its capacity, changes neither what was handed in nor another answer; nothing is kept, nor handed out from behind a list.
func TestNewMemory(t *testing.T) {
	for _, d := range someMachines(t) {
		mine := roomy(d)
		want, _ := least.Of(d)
		first, _ := least.Of(mine)
		second, _ := least.Of(mine)
		spoil(first)
		if !sameRoom(mine, roomy(d)) {
			t.Errorf("%v: an answer shares memory with what was handed in", d)
		}
		if !same(second, want) {
			t.Errorf("%v: two answers share memory", d)
		}
		if third, _ := least.Of(mine); !same(third, want) {
			t.Errorf("%v: an answer is kept", d)
		}
		spoil(mine)
		if !same(second, want) {
			t.Errorf("%v: an answer shares memory with what was handed in", d)
		}
	}
}

// TestListsApart: no two lists of one answer share memory.
func TestListsApart(t *testing.T) {
	for _, d := range someMachines(t) {
		m, _ := least.Of(d)
		want, _ := least.Of(d)
		for i := range m.Next {
			for k := range whole(m.Next[i]) {
				whole(m.Next[i])[k] = -77
			}
			if !slices.EqualFunc(m.Next[i+1:], want.Next[i+1:], slices.Equal[[]int]) {
				t.Errorf("%v: rows share memory", d)
			}
		}
		if !slices.Equal(m.Tags, want.Tags) {
			t.Errorf("%v: tags and rows share memory", d)
		}
		for i := range m.Parts {
			for k := range whole(m.Parts[i]) {
				whole(m.Parts[i])[k] = api.Span{}
			}
			if !slices.EqualFunc(m.Parts[i+1:], want.Parts[i+1:], slices.Equal[[]api.Span]) {
				t.Errorf("%v: parts share memory", d)
			}
		}
	}
}

// TestNoLists: a list that is nil and one that is empty are the same thing (R6).
func TestNoLists(t *testing.T) {
	want := one(t, "", "#2")
	for _, d := range []api.Dfa{
		{Next: [][]int{nil}, Tags: []int{2}},
		{Parts: [][]api.Span{}, Next: [][]int{{}}, Tags: []int{2}},
		{Parts: [][]api.Span{nil}, Next: [][]int{{0}}, Tags: []int{2}},
		{Parts: [][]api.Span{{}}, Next: [][]int{{0}}, Tags: []int{2}},
		{Parts: [][]api.Span{{}, nil}, Next: [][]int{{0, -1}}, Tags: []int{2}},
	} {
		expectOf(t, "nil or empty", d, want)
	}
	expectError(t, "empty lists", api.Dfa{Parts: [][]api.Span{}, Next: [][]int{}, Tags: []int{}})
}
