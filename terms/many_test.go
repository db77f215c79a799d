package terms_test

import (
	"slices"
	"testing"

	"glyphcutter/api"
	"glyphcutter/terms"
)

// TestManySets: sets of which only the one at a place tells scalars apart, as far as many more than a number has bits.
func TestManySets(t *testing.T) {
	for _, many := range []int{1, 2, 31, 32, 33, 63, 64, 65, 66, 127, 128, 129, 130, 200, 300} {
		for _, at := range []int{0, 1, 30, 31, 32, 62, 63, 64, 65, 127, 128, 129, 199, 299} {
			if at >= many {
				continue
			}
			l := slices.Repeat(lists(spans(10, 29)), many)
			l[at] = spans(10, 19)
			want := lists(spans(10, 19), spans(20, 29))
			if many == 1 {
				want = lists(spans(10, 19))
			}
			expectParts(t, "one of many", terms.Of(l), want...)
			l[at] = nil
			want = lists(spans(10, 29))
			if many == 1 {
				want = nil
			}
			expectParts(t, "one of many, of nothing", terms.Of(l), want...)
			if t.Failed() {
				t.Fatalf("%d sets, at %d", many, at)
			}
		}
	}
}

// TestOneSetEach: each scalar has a set of its own, and none is like another.
func TestOneSetEach(t *testing.T) {
	for _, many := range []int{1, 63, 64, 65, 128, 129, 1000} {
		var l, want [][]api.Span
		for r := range many {
			// Neighbours in the list are no neighbours among the scalars.
			at := r * 37 % many
			if many%37 == 0 {
				at = r
			}
			l = append(l, spans(at, at))
			want = append(want, spans(r, r))
		}
		expectParts(t, "one set each", terms.Of(l), want...)
	}
}

// TestAllButOne: each set has all scalars but one: each of these is a part, and one more all others.
func TestAllButOne(t *testing.T) {
	for _, many := range []int{1, 2, 63, 64, 65, 130, 500} {
		var l, want [][]api.Span
		for r := range many {
			l = append(l, spans(0, r-1, r+1, 0x10ffff))
			// One set that has not the only scalar: this one is in no part.
			if many > 1 {
				want = append(want, spans(r, r))
			}
		}
		want = append(want, spans(many, 0xd7ff, 0xe000, 0x10ffff))
		expectParts(t, "all but one", terms.Of(l), want...)
	}
}

// TestSameAndOther: scalars that are alike in the first sets, and told apart far behind, and those that are in none of the first ones.
func TestSameAndOther(t *testing.T) {
	l := make([][]api.Span, 200)
	l[0] = spans(0, 9)
	l[70] = spans(20, 29)
	l[140] = spans(5, 24)
	l[199] = spans(3, 3, 7, 7, 22, 22, 27, 27, 40, 40)
	expectParts(t, "far behind", terms.Of(l), spans(0, 2, 4, 4), spans(3, 3), spans(5, 6, 8, 9), spans(7, 7), spans(10, 19), spans(20, 21, 23, 24), spans(22, 22), spans(25, 26, 28, 29), spans(27, 27), spans(40, 40))
}

// TestStairs: sets of which each begins and ends one scalar behind the one before.
func TestStairs(t *testing.T) {
	var l, want [][]api.Span
	for r := range 300 {
		l = append(l, spans(r, 1000+r))
	}
	for r := range 299 {
		want = append(want, spans(r, r))
	}
	want = append(want, spans(299, 1000))
	for r := range 299 {
		want = append(want, spans(1001+r, 1001+r))
	}
	expectParts(t, "stairs", terms.Of(l), want...)
}

// TestVeryMany: each call ends, and soon, when very many sets or spans are handed in.
func TestVeryMany(t *testing.T) {
	var apart [][]api.Span
	var one []api.Span
	for r := range 100000 {
		apart = append(apart, spans(0x10000+r, 0x10000+r))
		one = append(one, api.Span{Lo: 0x10000 + 3*r, Hi: 0x10000 + 3*r + 1})
	}
	slices.Reverse(apart)
	parts := terms.Of(apart)
	if len(parts) != 100000 {
		t.Errorf("%d parts of very many sets", len(parts))
	}
	expectWhich(t, "very many", parts, 0x10000, 0, 0x10000+99999, 99999, 0x10000+100000, -1)
	if got := terms.Parts(parts, spans(0x10005, 0x10006, 0x10000+99999, 0x10ffff)); !slices.Equal(got, []int{5, 6, 99999}) {
		t.Errorf("Parts of very many: %d", got)
	}
	parts = terms.Of(lists(one, spans(0, 0x10ffff), one))
	if len(parts) != 2 || len(parts[1]) != 100000 || len(parts[0]) != 100002 {
		t.Errorf("%d parts of very many spans", len(parts))
	}
	expectPlaces(t, "very many spans", terms.Parts(parts, one), 1)
	same := slices.Repeat(lists(spans('a', 'z', '0', '9')), 200000)
	expectParts(t, "very many that are the same", terms.Of(same), spans('0', '9', 'a', 'z'))
}
