package terms_test

import (
	"slices"
	"testing"

	"glyphcutter/api"
	"glyphcutter/set"
	"glyphcutter/terms"
)

// expectUnion holds the parts that a set is made of against that set: put together they are the same.
func expectUnion(t *testing.T, parts [][]api.Span, s []api.Span) {
	t.Helper()
	var got []api.Span
	for _, i := range terms.Parts(parts, s) {
		got = append(got, parts[i]...)
	}
	if !set.Same(got, s) {
		t.Errorf("the parts of %x: %x", s, got)
	}
}

// alike says by the chapter's words whether of each of l both are in it, or neither.
func alike(l [][]api.Span, r, q int) bool {
	return !slices.ContainsFunc(l, func(s []api.Span) bool { return set.Has(s, r) != set.Has(s, q) })
}

// partsOf are the parts of sets that have no scalars but these, by the chapter's words: scalar by scalar, each held against the first one of each part.
func partsOf(l [][]api.Span, rising []int) [][]api.Span {
	var firsts []int
	var out [][]api.Span
	for _, r := range rising {
		if !slices.ContainsFunc(l, func(s []api.Span) bool { return set.Has(s, r) }) {
			continue
		}
		i := slices.IndexFunc(firsts, func(first int) bool { return alike(l, first, r) })
		if i == -1 {
			i = len(firsts)
			firsts = append(firsts, r)
			out = append(out, nil)
		}
		out[i] = append(out[i], api.Span{Lo: r, Hi: r})
	}
	for i, p := range out {
		out[i] = set.Norm(p)
	}
	return out
}

// chosen are those of some scalars that a number's bits tell, each a span of its own, the last one first.
func chosen(of []int, bits int) []api.Span {
	var out []api.Span
	for i, r := range slices.Backward(of) {
		if bits>>i&1 == 1 {
			out = append(out, api.Span{Lo: r, Hi: r})
		}
	}
	return out
}

// TestAllOfFew: all three sets of five scalars, wherever these lie.
func TestAllOfFew(t *testing.T) {
	for _, few := range [][]int{
		{0, 1, 2, 3, 4},
		{0xd7fe, 0xd7ff, 0xe000, 0xe001, 0xe002},
		{0x7f, 0x80, 0xffff, 0x10000, 0x10ffff},
	} {
		for bits := range 1 << 15 {
			l := lists(chosen(few, bits), chosen(few, bits>>5), chosen(few, bits>>10))
			want := partsOf(l, few)
			got := terms.Of(l)
			if !slices.EqualFunc(got, want, slices.Equal[[]api.Span]) {
				t.Fatalf("Of %x: %x, want %x", l, got, want)
			}
			for _, r := range few {
				has := func(p []api.Span) bool {
					return slices.ContainsFunc(p, func(s api.Span) bool { return s.Lo <= r && r <= s.Hi })
				}
				if got, want := terms.Which(got, r), slices.IndexFunc(want, has); got != want {
					t.Fatalf("Which of the parts of %x and %x: %d, want %d", l, r, got, want)
				}
			}
		}
	}
}

// commonOf are the places of the lists that have a scalar in common with s, by the chapter's words.
func commonOf(l [][]api.Span, s []api.Span) []int {
	var out []int
	for i, p := range l {
		if set.Size(set.Inter(p, s)) > 0 {
			out = append(out, i)
		}
	}
	return out
}

// TestPartsOfFew: Parts of all lists of two among three, as lists that need be no parts.
func TestPartsOfFew(t *testing.T) {
	few := []int{0xd7fe, 0xd7ff, 0xe000, 0xe002, 0xe003}
	for bits := range 1 << 15 {
		l := lists(chosen(few, bits), chosen(few, bits>>5))
		s := chosen(few, bits>>10)
		expectPlaces(t, "few", terms.Parts(l, s), commonOf(l, s)...)
		if t.Failed() {
			t.Fatalf("Parts of %x and %x", l, s)
		}
	}
}

// TestPartsAtEdges: a part of one span and a set of one or two, from each edge to each other one, wrong ones, too.
func TestPartsAtEdges(t *testing.T) {
	edges := []int{-1, 0, 1, 5, 6, 0xd7ff, 0xd800, 0xdfff, 0xe000, 0x10ffff, 0x110000}
	var pairs []api.Span
	for _, lo := range edges {
		for _, hi := range edges {
			pairs = append(pairs, api.Span{Lo: lo, Hi: hi})
		}
	}
	for i, x := range pairs {
		for k, y := range pairs {
			parts, s := lists([]api.Span{x}), []api.Span{y, pairs[(i*7+k*3)%len(pairs)]}
			if got, want := terms.Parts(parts, s), commonOf(parts, s); !slices.Equal(got, want) {
				t.Fatalf("Parts of %x and %x: %d, want %d", parts, s, got, want)
			}
		}
	}
}

// picker draws numbers in one order that is the same each time.
type picker uint32

func (p *picker) below(n int) int {
	*p = *p*1664525 + 1013904223
	return int(*p>>8) % n
}

// list is some spans near one of the places at which scalars begin or end, or, seldom, a long one or a wrong one.
func (p *picker) list() []api.Span {
	bases := []int{0, 0, 0xd7f8, 0xdff8, 0x10fff0}
	var out []api.Span
	for range p.below(5) {
		lo := bases[p.below(len(bases))] + p.below(24) - 3
		hi := lo + p.below(7) - 1
		if p.below(12) == 0 {
			hi = bases[p.below(len(bases))] + p.below(24)
		}
		out = append(out, api.Span{Lo: lo, Hi: hi})
	}
	return out
}

// probesOf are the scalars beside which something may change, and all that lie near: parts and sets are the same from one to the next.
func probesOf(l ...[]api.Span) []int {
	var out []int
	for _, s := range l {
		for _, span := range s {
			out = append(out, span.Lo-1, span.Lo, span.Hi, span.Hi+1)
		}
	}
	out = append(out, -1, 0, 0xd7ff, 0xd800, 0xdfff, 0xe000, 0x10ffff, 0x110000)
	slices.Sort(out)
	return slices.Compact(out)
}

// expectLaws holds the parts of any lists against the chapter's words.
func expectLaws(t *testing.T, l [][]api.Span) {
	t.Helper()
	parts := terms.Of(l)
	least := -1
	for i, p := range parts {
		if len(p) == 0 || !slices.Equal(set.Norm(p), p) {
			t.Fatalf("Of %x: part %d is no set, or of nothing: %x", l, i, p)
		}
		if p[0].Lo <= least {
			t.Fatalf("Of %x: part %d is not in order: %x", l, i, parts)
		}
		least = p[0].Lo
	}
	for _, r := range probesOf(slices.Concat(l, parts)...) {
		which := terms.Which(parts, r)
		in := slices.ContainsFunc(l, func(s []api.Span) bool { return set.Has(s, r) })
		if in != (which >= 0) || which >= len(parts) || in && !set.Has(parts[which], r) {
			t.Fatalf("Which of the parts of %x and %x: %d", l, r, which)
		}
		for i, p := range parts {
			if set.Has(p, r) && i != which {
				t.Fatalf("Of %x: %x is in two parts: %x", l, r, parts)
			}
			// The first scalar of a part stands for all of it: what is like that one is in it, and nothing else.
			if first := p[0].Lo; in && alike(l, first, r) != (i == which) {
				t.Fatalf("Of %x: %x and %x, in part %d", l, first, r, which)
			}
		}
	}
	for _, s := range l {
		expectUnion(t, parts, s)
		expectPlaces(t, "Parts", terms.Parts(parts, s), commonOf(parts, s)...)
		if t.Failed() {
			t.Fatalf("Of %x: a set is not some of the parts %x", l, parts)
		}
	}
}

// TestMixed: many mixed lists, some of them few, some more than a number has bits.
func TestMixed(t *testing.T) {
	p := picker(7)
	for round := range 900 {
		var l [][]api.Span
		count := p.below(7)
		if round%60 == 0 {
			count = 60 + p.below(80)
		}
		for range count {
			l = append(l, p.list())
		}
		expectLaws(t, l)
	}
}

// TestPartsMixed: Parts of any lists, which need be no parts.
func TestPartsMixed(t *testing.T) {
	p := picker(11)
	for range 4000 {
		l, s := lists(p.list(), p.list(), p.list(), p.list()), p.list()
		if got, want := terms.Parts(l, s), commonOf(l, s); !slices.Equal(got, want) {
			t.Fatalf("Parts of %x and %x: %d, want %d", l, s, got, want)
		}
	}
}

// TestOrderOfSets: in whatever order sets are handed in, and how often, the parts are the same.
func TestOrderOfSets(t *testing.T) {
	p := picker(13)
	for range 300 {
		l := lists(p.list(), p.list(), p.list(), p.list(), p.list())
		want := terms.Of(l)
		back := slices.Clone(l)
		slices.Reverse(back)
		expectParts(t, "the other way round", terms.Of(back), want...)
		expectParts(t, "twice", terms.Of(slices.Concat(l, back)), want...)
		expectParts(t, "again", terms.Of(l), want...)
		expectParts(t, "of parts", terms.Of(want), want...)
		if t.Failed() {
			t.Fatalf("Of %x", l)
		}
	}
}
