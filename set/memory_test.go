package set_test

import (
	"slices"
	"testing"

	"glyphcutter/api"
	"glyphcutter/set"
)

// calls are all that take lists and answer one, as functions of two lists.
func calls() map[string]func(a, b []api.Span) []api.Span {
	return map[string]func(a, b []api.Span) []api.Span{
		"Norm":         func(a, b []api.Span) []api.Span { return set.Norm(a) },
		"Union":        func(a, b []api.Span) []api.Span { return set.Union(a, b) },
		"Union of one": func(a, b []api.Span) []api.Span { return set.Union(a) },
		"Inter":        func(a, b []api.Span) []api.Span { return set.Inter(a, b) },
		"Minus":        func(a, b []api.Span) []api.Span { return set.Minus(a, b) },
		"Not":          func(a, b []api.Span) []api.Span { return set.Not(a) },
	}
}

// lists are pairs of arguments: those that are sets already tempt a call to hand them on.
func lists() [][2][]api.Span {
	return [][2][]api.Span{
		{spans(5, 9, 0, 4, 7, 2), spans(20, 30, 8, 8)},
		{spans(0, 9), spans(0, 9)},
		{spans(0, 9, 20, 30), nil},
		{spans(0, 0xd7ff, 0xe000, 0x10ffff), spans(3, 3)},
		{nil, nil},
	}
}

// room is l with spans behind its length in its memory: the whole memory, and the list.
func room(l []api.Span) ([]api.Span, []api.Span) {
	whole := append(slices.Clone(l), spans(100, 200, 300, 400, 1, 2)...)
	return whole, whole[:len(l)]
}

// TestArgumentsStay: R2: what is handed in is not changed, what lies behind a list's length is neither read nor written.
func TestArgumentsStay(t *testing.T) {
	for what, call := range calls() {
		for _, c := range lists() {
			want := slices.Clone(call(c[0], c[1]))
			wholeA, a := room(c[0])
			wholeB, b := room(c[1])
			keptA, keptB := slices.Clone(wholeA), slices.Clone(wholeB)
			expectSet(t, what+" with memory behind the lists", call(a, b), want)
			if !slices.Equal(wholeA, keptA) || !slices.Equal(wholeB, keptB) {
				t.Errorf("%s changed what was handed in", what)
			}
		}
	}
}

// TestAskingChangesNothing: the same of the calls that answer no list.
func TestAskingChangesNothing(t *testing.T) {
	for _, c := range lists() {
		wholeA, a := room(c[0])
		wholeB, b := room(c[1])
		keptA, keptB := slices.Clone(wholeA), slices.Clone(wholeB)
		if set.Has(a, 150) != set.Has(c[0], 150) || set.Size(a) != set.Size(c[0]) || set.Same(a, b) != set.Same(c[0], c[1]) {
			t.Error("what lies behind a list was read")
		}
		if !slices.Equal(wholeA, keptA) || !slices.Equal(wholeB, keptB) {
			t.Error("what was handed in was changed")
		}
	}
}

// TestAnswersAreNew: R2: who writes into an answer, up to its capacity, changes neither arguments nor other answers.
func TestAnswersAreNew(t *testing.T) {
	for what, call := range calls() {
		for _, c := range lists() {
			wholeA, a := room(c[0])
			wholeB, b := room(c[1])
			keptA, keptB := slices.Clone(wholeA), slices.Clone(wholeB)
			first, second := call(a, b), call(a, b)
			want := slices.Clone(second)
			scribble(first)
			if !slices.Equal(wholeA, keptA) || !slices.Equal(wholeB, keptB) {
				t.Errorf("%s: the answer shares memory with an argument", what)
			}
			expectSet(t, what+": another answer", second, want)
			expectSet(t, what+": the next answer", call(a, b), want)
			scribble(wholeA)
			scribble(wholeB)
			expectSet(t, what+": the answer, when the arguments change", second, want)
		}
	}
}

// scribble writes over all of a list's memory.
func scribble(l []api.Span) {
	l = l[:cap(l)]
	for i := range l {
		l[i] = api.Span{Lo: -77, Hi: -77}
	}
}

// TestUnionKeepsItsRow: the row of lists that is spread into Union stays as it was, too.
func TestUnionKeepsItsRow(t *testing.T) {
	row := [][]api.Span{spans(5, 9), nil, spans(0, 3), spans(70, 80)}
	expectSet(t, "Union of a part of a row", set.Union(row[:3]...), spans(0, 3, 5, 9))
	want := [][]api.Span{spans(5, 9), nil, spans(0, 3), spans(70, 80)}
	if !slices.EqualFunc(row, want, slices.Equal[[]api.Span]) {
		t.Error("the row was changed")
	}
}
