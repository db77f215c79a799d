package fold_test

import (
	"math"
	"slices"
	"testing"
	"unicode"

	"glyphcutter/api"
	"glyphcutter/fold"
	"glyphcutter/set"
)

// folded is the chapter's own words for Fold.
func folded(r int) int {
	within := func(lo, hi int) bool { return lo <= r && r <= hi }
	switch {
	case within(0x41, 0x5a), within(0xc0, 0xde) && r != 0xd7, within(0x391, 0x3a9) && r != 0x3a2, within(0x410, 0x42f):
		return r + 32
	case within(0x400, 0x40f):
		return r + 80
	}
	switch r {
	case 0xb5:
		return 0x3bc
	case 0x3c2:
		return 0x3c3
	case 0x1e9e:
		return 0xdf
	case 0x2126:
		return 0x3c9
	case 0x212a:
		return 0x6b
	case 0x212b:
		return 0xe5
	}
	return r
}

// letters is more than all scalars that are alike to another one.
const letters = 0x2200

// closed is the chapter's own words for Close: scalar by scalar below letters; from there on each is alike to itself alone.
func closed(l []api.Span) []api.Span {
	var told [letters]bool
	var out []api.Span
	for _, s := range l {
		for r := max(s.Lo, 0); r <= min(s.Hi, letters-1); r++ {
			told[folded(r)] = true
		}
		out = append(out, api.Span{Lo: max(s.Lo, letters), Hi: s.Hi})
	}
	for r := range letters {
		if told[folded(r)] {
			out = append(out, api.Span{Lo: r, Hi: r})
		}
	}
	return set.Norm(out)
}

// expectClosed holds Close of l against the words, and closed twice against closed once.
func expectClosed(t *testing.T, l []api.Span) {
	t.Helper()
	got, want := fold.Close(l), closed(l)
	if !slices.Equal(got, want) {
		t.Fatalf("Close of %x: %x, want %x", l, got, want)
	}
	if twice := fold.Close(got); !slices.Equal(twice, got) {
		t.Fatalf("Close of %x: %x, and closed twice %x", l, got, twice)
	}
}

// TestEveryFold holds Fold of every scalar against the words, and folded twice against folded once.
func TestEveryFold(t *testing.T) {
	for r := -0x200; r < 0x110200; r++ {
		got := fold.Fold(r)
		if got != folded(r) {
			t.Fatalf("Fold of %x: %x, want %x", r, got, folded(r))
		}
		if twice := fold.Fold(got); twice != got {
			t.Fatalf("Fold of %x: %x, and folded twice %x", r, got, twice)
		}
	}
}

// TestEveryOrbit gathers all scalars by what they fold to, and holds every Orbit, and Close of the scalar alone, against that.
func TestEveryOrbit(t *testing.T) {
	alike := map[int][]int{}
	for r := range 0x110000 {
		if isScalar(r) {
			alike[folded(r)] = append(alike[folded(r)], r)
		}
	}
	for r := -0x200; r < 0x110200; r++ {
		var want []int
		if isScalar(r) {
			want = alike[folded(r)]
		}
		if got := fold.Orbit(r); !slices.Equal(got, want) {
			t.Fatalf("Orbit of %x: %x, want %x", r, got, want)
		}
		if r < letters {
			expectClosed(t, spans(r, r))
		}
	}
}

// TestPartOfSimpleFolding: what is alike here is alike to the language too.
func TestPartOfSimpleFolding(t *testing.T) {
	for r := range letters {
		ring := []int{r}
		for x := unicode.SimpleFold(rune(r)); x != rune(r); x = unicode.SimpleFold(x) {
			ring = append(ring, int(x))
		}
		for _, x := range fold.Orbit(r) {
			if !slices.Contains(ring, x) {
				t.Errorf("Orbit of %x has %x", r, x)
			}
		}
	}
}

// edges are the numbers at which something changes: where runs, and what they fold to, begin and end.
func edges() []int {
	return []int{
		math.MinInt, -1, 0, 0x40, 0x41, 0x4b, 0x5a, 0x5b, 0x60, 0x61, 0x6b, 0x7a, 0x7b, 0xb4, 0xb5, 0xb6,
		0xbf, 0xc0, 0xc5, 0xd6, 0xd7, 0xd8, 0xde, 0xdf, 0xe0, 0xe5, 0xf6, 0xf7, 0xf8, 0xfe, 0xff,
		0x390, 0x391, 0x39c, 0x3a1, 0x3a2, 0x3a3, 0x3a9, 0x3aa, 0x3b0, 0x3b1, 0x3bc, 0x3c1, 0x3c2, 0x3c3, 0x3c9, 0x3ca,
		0x3ff, 0x400, 0x40f, 0x410, 0x42f, 0x430, 0x44f, 0x450, 0x45f, 0x460,
		0x1e9d, 0x1e9e, 0x1e9f, 0x2125, 0x2126, 0x2127, 0x2129, 0x212a, 0x212b, 0x212c, 0x21ff, 0x2200,
		0xd7ff, 0xd800, 0xdfff, 0xe000, 0x10ffff, 0x110000, math.MaxInt,
	}
}

// TestEdges holds Close of all spans between edges, wrong ones too, against the words; no call may panic (T8).
func TestEdges(t *testing.T) {
	for _, lo := range edges() {
		for _, hi := range edges() {
			expectClosed(t, spans(lo, hi))
		}
	}
}

// picker draws numbers in one order that is the same each time.
type picker uint32

func (p *picker) below(n int) int {
	*p = *p*1664525 + 1013904223
	return int(*p>>8) % n
}

// list is some short spans near edges; some of them are wrong.
func (p *picker) list() []api.Span {
	at := edges()
	var out []api.Span
	for range p.below(9) {
		lo := at[p.below(len(at))] + p.below(9) - 4
		out = append(out, api.Span{Lo: lo, Hi: lo + p.below(12) - 2})
	}
	return out
}

// TestMixedLists holds Close of many spans against the words, and that of a union against the union of theirs.
func TestMixedLists(t *testing.T) {
	p := picker(1)
	for range 5000 {
		a, b := p.list(), p.list()
		expectClosed(t, a)
		both := fold.Close(slices.Concat(a, b))
		if apart := set.Union(fold.Close(a), fold.Close(b)); !slices.Equal(both, apart) {
			t.Fatalf("Close of %x with %x: %x, want %x", a, b, both, apart)
		}
	}
}

// TestLongLists: a list may be longer than any limit of a set's spans.
func TestLongLists(t *testing.T) {
	const n = 100000
	var apart, alike []api.Span
	for i := n - 1; i >= 0; i-- {
		apart = append(apart, api.Span{Lo: 2 * i, Hi: 2 * i})
		alike = append(alike, api.Span{Lo: 'a' - i, Hi: 'a' + i})
	}
	expectClosed(t, apart)
	if got := fold.Close(alike); !slices.Equal(got, closed(spans('a'-n+1, 'a'+n-1))) {
		t.Errorf("spans within one another: %x", got)
	}
}
