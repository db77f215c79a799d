package terms_test

import (
	"math"
	"slices"
	"testing"

	"glyphcutter/api"
	"glyphcutter/props"
	"glyphcutter/set"
	"glyphcutter/terms"
)

// spans takes Lo and Hi in turn.
func spans(n ...int) []api.Span {
	var out []api.Span
	for i := 0; i+1 < len(n); i += 2 {
		out = append(out, api.Span{Lo: n[i], Hi: n[i+1]})
	}
	return out
}

// lists puts some lists of spans into one.
func lists(l ...[]api.Span) [][]api.Span { return l }

// expectParts holds parts against those that are right.
func expectParts(t *testing.T, what string, got [][]api.Span, want ...[]api.Span) {
	t.Helper()
	if !slices.EqualFunc(got, want, slices.Equal[[]api.Span]) {
		t.Errorf("%s: %x, want %x", what, got, want)
	}
}

// expectPlaces holds places against those that are right.
func expectPlaces(t *testing.T, what string, got []int, want ...int) {
	t.Helper()
	if !slices.Equal(got, want) {
		t.Errorf("%s: %d, want %d", what, got, want)
	}
}

// expectWhich holds Which of numbers, each with its part behind it, against what is right.
func expectWhich(t *testing.T, what string, parts [][]api.Span, n ...int) {
	t.Helper()
	for i := 0; i+1 < len(n); i += 2 {
		if got := terms.Which(parts, n[i]); got != n[i+1] {
			t.Errorf("%s: Which of %x is %d, want %d", what, n[i], got, n[i+1])
		}
	}
}

// TestExamples: the chapter's own.
func TestExamples(t *testing.T) {
	parts := terms.Of(lists(spans(0, 9), spans(5, 20)))
	expectParts(t, "1", parts, spans(0, 4), spans(5, 9), spans(10, 20))
	expectWhich(t, "1", parts, 0, 0, 4, 0, 5, 1, 9, 1, 10, 2, 20, 2, 21, -1, -1, -1)
	expectPlaces(t, "6 to 7", terms.Parts(parts, spans(6, 7)), 1)
	expectPlaces(t, "4 to 5", terms.Parts(parts, spans(4, 5)), 0, 1)
	expectPlaces(t, "all", terms.Parts(parts, spans(0, 0x10ffff)), 0, 1, 2)
	expectPlaces(t, "none", terms.Parts(parts, spans(21, 0x10ffff)))
}

// TestOf is a table of lists and their parts.
func TestOf(t *testing.T) {
	for _, c := range []struct {
		what string
		of   [][]api.Span
		want [][]api.Span
	}{
		{"nothing", nil, nil},
		{"sets of nothing", lists(nil, spans(9, 3), nil), nil},
		{"one set", lists(spans('a', 'c', 'x', 'z')), lists(spans('a', 'c', 'x', 'z'))},
		{"one set twice", lists(spans(1, 3, 7, 9), spans(1, 3, 7, 9)), lists(spans(1, 3, 7, 9))},
		{"apart", lists(spans(20, 30), spans(1, 2)), lists(spans(1, 2), spans(20, 30))},
		{"one behind the other", lists(spans(5, 9), spans(0, 4)), lists(spans(0, 4), spans(5, 9))},
		{"one within the other", lists(spans(0, 9), spans(3, 5)), lists(spans(0, 2, 6, 9), spans(3, 5))},
		{"one within the other, from its first on", lists(spans(0, 9), spans(0, 5)), lists(spans(0, 5), spans(6, 9))},
		{"one within the other, to its last", lists(spans(5, 9), spans(0, 9)), lists(spans(0, 4), spans(5, 9))},
		{"a scalar alone", lists(spans(5, 5), spans(4, 6)), lists(spans(4, 4, 6, 6), spans(5, 5))},
		{"again and again", lists(spans(0, 1, 4, 5, 8, 9), spans(4, 4, 8, 8)), lists(spans(0, 1, 5, 5, 9, 9), spans(4, 4, 8, 8))},
		{"by the least scalar, not by the list", lists(spans(8, 8, 2, 2), spans(5, 5), spans(1, 1, 9, 9)), lists(spans(1, 1, 9, 9), spans(2, 2, 8, 8), spans(5, 5))},
		{"three ways", lists(spans(0, 3, 8, 11), spans(0, 1, 4, 5, 8, 9), spans(0, 0, 2, 2, 4, 4, 6, 6)), lists(spans(0, 0), spans(1, 1, 8, 9), spans(2, 2), spans(3, 3, 10, 11), spans(4, 4), spans(5, 5), spans(6, 6))},
		{"any order", lists(spans(7, 9, 3, 4, 1, 2), spans(8, 8)), lists(spans(1, 4, 7, 7, 9, 9), spans(8, 8))},
		{"spans over one another", lists(spans(0, 9, 5, 12, 3, 4, 5, 12), spans(12, 13)), lists(spans(0, 11), spans(12, 12), spans(13, 13))},
		{"wrong spans among others", lists(spans(9, 3, 1, 2, 5, 4), spans(2, 0, 2, 2)), lists(spans(1, 1), spans(2, 2))},
		{"surrogates", lists(spans(0xd800, 0xdfff), spans(0xd900, 0xe001)), lists(spans(0xe000, 0xe001))},
		{"over the surrogates", lists(spans(0xd7fe, 0xe001), spans(0xd7ff, 0xd800), spans(0xdfff, 0xe000)), lists(spans(0xd7fe, 0xd7fe, 0xe001, 0xe001), spans(0xd7ff, 0xd7ff), spans(0xe000, 0xe000))},
		{"all scalars", lists(spans(0, 0x10ffff)), lists(spans(0, 0xd7ff, 0xe000, 0x10ffff))},
		{"the last scalar", lists(spans(0, 0x10ffff), spans(0x10ffff, 0x10ffff)), lists(spans(0, 0xd7ff, 0xe000, 0x10fffe), spans(0x10ffff, 0x10ffff))},
		{"no scalars", lists(spans(-9, -1, 0x110000, 0x110009), spans(math.MinInt, math.MaxInt)), lists(spans(0, 0xd7ff, 0xe000, 0x10ffff))},
		{"half out", lists(spans(-9, 3), spans(0x10fffe, math.MaxInt), spans(math.MinInt, 0)), lists(spans(0, 0), spans(1, 3), spans(0x10fffe, 0x10ffff))},
	} {
		expectParts(t, c.what, terms.Of(c.of), c.want...)
	}
}

// TestWhich is asked of any lists, which need be no parts: the first one that has a scalar is told.
func TestWhich(t *testing.T) {
	parts := lists(spans(9, 3), spans(7, 9, 1, 2), spans(2, 7), nil, spans(0, 0x10ffff))
	expectWhich(t, "any lists", parts, 1, 1, 2, 1, 3, 2, 6, 2, 7, 1, 9, 1, 10, 4, 0, 4, 0x10ffff, 4)
	expectWhich(t, "no scalars", parts, -1, -1, 0x110000, -1, 0xd800, -1, 0xdfff, -1, math.MinInt, -1, math.MaxInt, -1)
	expectWhich(t, "beside the surrogates", parts, 0xd7ff, 4, 0xe000, 4)
	expectWhich(t, "surrogates in a list", lists(spans(0xd800, 0xdfff)), 0xd800, -1, 0xdfff, -1, 0xd900, -1)
	expectWhich(t, "no parts", nil, 0, -1, 5, -1, -1, -1)
	expectWhich(t, "parts of nothing", lists(nil, nil), 0, -1)
}

// TestParts is asked of any lists, too: all those are told that have a scalar in common with the set.
func TestParts(t *testing.T) {
	parts := lists(spans(0, 4), spans(9, 3), spans(5, 9, 20, 29), nil, spans(10, 19), spans(7, 8, 2, 3))
	for _, c := range []struct {
		what string
		s    []api.Span
		want []int
	}{
		{"nothing", nil, nil},
		{"a span of nothing", spans(6, 5), nil},
		{"one", spans(15, 15), []int{4}},
		{"two, one of them with its other span", spans(4, 4, 29, 29), []int{0, 2}},
		{"ends that touch", spans(4, 5), []int{0, 2}},
		{"between", spans(30, 99), nil},
		{"many, some of them below the set", spans(19, 20), []int{2, 4}},
		{"parts that are over one another", spans(8, 8), []int{2, 5}},
		{"not in order", spans(25, 25, 3, 3, 30, 40), []int{0, 2, 5}},
		{"all", spans(0, 0x10ffff), []int{0, 2, 4, 5}},
		{"more than all", spans(math.MinInt, math.MaxInt), []int{0, 2, 4, 5}},
		{"below all", spans(math.MinInt, -1), nil},
	} {
		expectPlaces(t, c.what, terms.Parts(parts, c.s), c.want...)
	}
	expectPlaces(t, "of no parts", terms.Parts(nil, spans(0, 9)))
}

// TestPartsOfWhatIsNoScalar: numbers that are no scalars are not in common, though lists tell them.
func TestPartsOfWhatIsNoScalar(t *testing.T) {
	parts := lists(spans(0xd800, 0xdfff), spans(-5, -1), spans(0x110000, math.MaxInt), spans(0xd7ff, 0xd900), spans(0xdfff, 0xe000), spans(math.MinInt, math.MaxInt), spans(math.MaxInt, math.MinInt))
	expectPlaces(t, "all numbers", terms.Parts(parts, spans(math.MinInt, math.MaxInt)), 3, 4, 5)
	expectPlaces(t, "surrogates", terms.Parts(parts, spans(0xd800, 0xdfff)))
	expectPlaces(t, "surrogates and one above", terms.Parts(parts, spans(0xd800, 0xe000)), 4, 5)
	expectPlaces(t, "surrogates and one below", terms.Parts(parts, spans(0xd7ff, 0xdfff)), 3, 5)
	expectPlaces(t, "below", terms.Parts(parts, spans(-9, -1)))
	expectPlaces(t, "above", terms.Parts(parts, spans(0x110000, math.MaxInt)))
	expectPlaces(t, "the last one", terms.Parts(parts, spans(0x10ffff, math.MaxInt)), 5)
}

// TestClasses: parts of classes of scalars have as many scalars as these, and no more.
func TestClasses(t *testing.T) {
	var of [][]api.Span
	var all []api.Span
	for _, name := range props.Names() {
		s, _ := props.Of(name)
		of = append(of, s)
		all = append(all, s...)
	}
	parts := terms.Of(of)
	size := 0
	for _, p := range parts {
		size += set.Size(p)
	}
	if size != set.Size(all) {
		t.Errorf("parts of classes have %d scalars, want %d", size, set.Size(all))
	}
	for i, s := range of {
		expectUnion(t, parts, s)
		if t.Failed() {
			t.Fatalf("of %s", props.Names()[i])
		}
	}
}
