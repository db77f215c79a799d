package set_test

import (
	"math"
	"slices"
	"testing"

	"glyphcutter/api"
	"glyphcutter/set"
)

// pairsOfEdges are all spans from one edge to another one, wrong ones too.
func pairsOfEdges() []api.Span {
	var out []api.Span
	for _, lo := range edges {
		for _, hi := range edges {
			out = append(out, api.Span{Lo: lo, Hi: hi})
		}
	}
	return out
}

// TestEdges asks all calls of all pairs of spans between edges: no call may panic (T8), and each tells what the words say.
func TestEdges(t *testing.T) {
	at := probes()
	for _, x := range pairsOfEdges() {
		for _, y := range pairsOfEdges() {
			expectLaws(t, []api.Span{x}, []api.Span{y}, at)
		}
	}
}

// expectLaws holds each call on a and b against what is told of each of the places.
func expectLaws(t *testing.T, a, b []api.Span, at []int) {
	t.Helper()
	inA := func(r int) bool { return tells(a, r) }
	inB := func(r int) bool { return tells(b, r) }
	both := slices.Concat(a, b)
	expectTold(t, "Norm", set.Norm(both), at, func(r int) bool { return inA(r) || inB(r) })
	expectTold(t, "Union", set.Union(a, b), at, func(r int) bool { return inA(r) || inB(r) })
	expectTold(t, "Inter", set.Inter(a, b), at, func(r int) bool { return inA(r) && inB(r) })
	expectTold(t, "Minus", set.Minus(a, b), at, func(r int) bool { return inA(r) && !inB(r) })
	expectTold(t, "Not", set.Not(both), at, func(r int) bool { return !inA(r) && !inB(r) })
	for _, r := range at {
		if set.Has(both, r) != tells(both, r) {
			t.Fatalf("Has of %x and %x", both, r)
		}
	}
	if set.Size(a)+set.Size(b) != set.Size(set.Union(a, b))+set.Size(set.Inter(a, b)) {
		t.Fatalf("Size of %x, %x", a, b)
	}
	if set.Size(both)+set.Size(set.Not(both)) != 0x110000-0x800 {
		t.Fatalf("Size of %x and of what is not in it", both)
	}
	apart := set.Size(set.Minus(a, b)) + set.Size(set.Minus(b, a))
	if set.Same(a, b) != (apart == 0) {
		t.Fatalf("Same of %x, %x", a, b)
	}
}

// picker draws numbers in one order that is the same each time.
type picker uint32

func (p *picker) below(n int) int {
	*p = *p*1664525 + 1013904223
	return int(*p>>8) % n
}

// list is some spans near one of the places at which scalars begin or end, or, seldom, a long one.
func (p *picker) list() []api.Span {
	bases := []int{0, 0xd7f8, 0xdff8, 0x10fff0}
	var out []api.Span
	for range p.below(9) {
		lo := bases[p.below(len(bases))] + p.below(24) - 4
		hi := lo + p.below(8) - 2
		if p.below(16) == 0 {
			hi = bases[p.below(len(bases))]
		}
		out = append(out, api.Span{Lo: lo, Hi: hi})
	}
	return out
}

// TestManySpans holds lists of many spans against what is told of each number near them.
func TestManySpans(t *testing.T) {
	var at []int
	for _, base := range []int{0, 0xd7f8, 0xdff8, 0x10fff0} {
		for i := range 48 {
			at = append(at, base+i-12)
		}
	}
	p := picker(1)
	for range 3000 {
		expectLaws(t, p.list(), p.list(), at)
	}
}

// TestEveryScalar counts one by one what Size and the sets tell.
func TestEveryScalar(t *testing.T) {
	a := spans(0x60, 0x7f, 0x61, 0x10000, 0x10fff0, math.MaxInt, 3, 2)
	b := spans(0x70, 0xd900, -3, 5, 0x20000, 0x2a6df)
	var union, inter, minus, not int
	for r := -10; r < 0x110010; r++ {
		x, y := tells(a, r), tells(b, r)
		if set.Has(a, r) != x || set.Has(b, r) != y {
			t.Fatalf("Has of %x", r)
		}
		union += count(x || y)
		inter += count(x && y)
		minus += count(x && !y)
		not += count(isScalar(r) && !x)
	}
	for what, c := range map[string][2]int{
		"Union": {set.Size(set.Union(a, b)), union},
		"Inter": {set.Size(set.Inter(a, b)), inter},
		"Minus": {set.Size(set.Minus(a, b)), minus},
		"Not":   {set.Size(set.Not(a)), not},
	} {
		if c[0] != c[1] {
			t.Errorf("Size of %s: %d, want %d", what, c[0], c[1])
		}
	}
}

func count(b bool) int {
	if b {
		return 1
	}
	return 0
}

// TestLongLists: a list may be longer than any limit of a set's spans.
func TestLongLists(t *testing.T) {
	const n = 100000
	var apart, alike []api.Span
	for i := n - 1; i >= 0; i-- {
		lo := 0xe000 + 2*i
		apart = append(apart, api.Span{Lo: lo, Hi: lo})
		alike = append(alike, api.Span{Lo: 5, Hi: 5 + i})
	}
	if l := set.Norm(apart); len(l) != n || formFault(l) != "" || set.Size(apart) != n {
		t.Error("spans that lie apart")
	}
	if l := set.Not(apart); len(l) != n+1 || formFault(l) != "" {
		t.Error("what lies between them")
	}
	expectSet(t, "spans within one another", set.Norm(alike), spans(5, 0xd7ff, 0xe000, n+4))
}
