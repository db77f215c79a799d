package set_test

import (
	"math"
	"slices"
	"testing"

	"glyphcutter/api"
	"glyphcutter/set"
)

// spans takes Lo and Hi in turn.
func spans(n ...int) []api.Span {
	var out []api.Span
	for i := 0; i+1 < len(n); i += 2 {
		out = append(out, api.Span{Lo: n[i], Hi: n[i+1]})
	}
	return out
}

func isScalar(r int) bool { return r >= 0 && r <= 0x10ffff && (r < 0xd800 || r > 0xdfff) }

// tells is the chapter's own words for Has: a scalar that lies in one of the spans.
func tells(l []api.Span, r int) bool {
	return isScalar(r) && slices.ContainsFunc(l, func(s api.Span) bool { return s.Lo <= r && r <= s.Hi })
}

// edges are the numbers at which something changes, in and beside the scalars.
var edges = []int{
	math.MinInt, -1, 0, 1, 4, 5, 0xd7fe, 0xd7ff, 0xd800, 0xd801, 0xdffe, 0xdfff, 0xe000, 0xe001, 0x10fffe, 0x10ffff, 0x110000, math.MaxInt,
}

// probes are the edges and their neighbours.
func probes() []int {
	var out []int
	for _, e := range edges {
		out = append(out, e-1, e, e+1)
	}
	slices.Sort(out)
	return slices.Compact(out)
}

// formFault says what keeps l from being a SET; nothing, if it is one.
func formFault(l []api.Span) string {
	for i, s := range l {
		switch {
		case s.Lo > s.Hi:
			return "a span of nothing"
		case !isScalar(s.Lo) || !isScalar(s.Hi):
			return "an end is no scalar"
		case s.Lo < 0xd800 && s.Hi > 0xdfff:
			return "surrogates within a span"
		case i > 0 && s.Lo <= l[i-1].Hi+1:
			return "spans do not rise, or nothing lies between them"
		}
	}
	return ""
}

// expectSet holds l against want: the one list that is right.
func expectSet(t *testing.T, what string, l, want []api.Span) {
	t.Helper()
	if !slices.Equal(l, want) {
		t.Errorf("%s: %x, want %x", what, l, want)
	}
}

// expectTold holds l against what a set must tell, at each of the places.
func expectTold(t *testing.T, what string, l []api.Span, at []int, want func(r int) bool) {
	t.Helper()
	if f := formFault(l); f != "" {
		t.Fatalf("%s: %x: %s", what, l, f)
	}
	for _, r := range at {
		if tells(l, r) != (isScalar(r) && want(r)) {
			t.Fatalf("%s: %x: wrong at %x", what, l, r)
		}
	}
}

func TestNorm(t *testing.T) {
	for _, c := range []struct {
		what    string
		l, want []api.Span
	}{
		{"nil", nil, nil},
		{"empty", []api.Span{}, nil},
		{"the example", spans(5, 9, 0, 4, 7, 2), spans(0, 9)},
		{"one scalar", spans(7, 7), spans(7, 7)},
		{"a gap of one", spans(0, 4, 6, 9), spans(0, 4, 6, 9)},
		{"touching", spans(0, 4, 5, 9), spans(0, 9)},
		{"touching, falling", spans(5, 9, 0, 4), spans(0, 9)},
		{"overlapping", spans(0, 6, 4, 9), spans(0, 9)},
		{"one within another", spans(0, 9, 3, 4), spans(0, 9)},
		{"one within another, ahead", spans(3, 4, 0, 9, 20, 20), spans(0, 9, 20, 20)},
		{"the same twice", spans(3, 4, 3, 4), spans(3, 4)},
		{"a bridge", spans(0, 1, 4, 5, 2, 3), spans(0, 5)},
		{"Lo above Hi", spans(9, 8), nil},
		{"Lo far above Hi", spans(math.MaxInt, math.MinInt), nil},
		{"Lo above Hi over the surrogates", spans(0xe000, 0xd7ff), nil},
		{"a wrong one hides no later one", spans(9, 8, 20, 30), spans(20, 30)},
		{"all", spans(0, 0x10ffff), spans(0, 0xd7ff, 0xe000, 0x10ffff)},
		{"all numbers", spans(math.MinInt, math.MaxInt), spans(0, 0xd7ff, 0xe000, 0x10ffff)},
		{"surrogates", spans(0xd800, 0xdfff), nil},
		{"some surrogates", spans(0xd900, 0xda00), nil},
		{"over the surrogates", spans(0xd7ff, 0xe000), spans(0xd7ff, 0xd7ff, 0xe000, 0xe000)},
		{"into the surrogates", spans(0xd000, 0xd800), spans(0xd000, 0xd7ff)},
		{"out of the surrogates", spans(0xdfff, 0xe0ff), spans(0xe000, 0xe0ff)},
		{"up to and from behind the surrogates", spans(0xe000, 0xe001, 0xd7fe, 0xd7ff), spans(0xd7fe, 0xd7ff, 0xe000, 0xe001)},
		{"below 0", spans(-5, -1), nil},
		{"from below 0", spans(-5, 0), spans(0, 0)},
		{"from the least number", spans(math.MinInt, 3), spans(0, 3)},
		{"above 10ffff", spans(0x110000, 0x120000), nil},
		{"to above 10ffff", spans(0x10ffff, 0x110000), spans(0x10ffff, 0x10ffff)},
		{"to the greatest number", spans(0x10fff0, math.MaxInt), spans(0x10fff0, 0x10ffff)},
		{"the greatest number", spans(math.MaxInt, math.MaxInt), nil},
	} {
		expectSet(t, c.what, set.Norm(c.l), c.want)
		expectSet(t, c.what+", normed twice", set.Norm(set.Norm(c.l)), c.want)
	}
}

func TestHas(t *testing.T) {
	l := spans(5, 9, 8, 12, 30, 20, -4, 0, 0xd000, 0xe001, 0x10ffff, math.MaxInt)
	for r, want := range map[int]bool{
		4: false, 5: true, 9: true, 10: true, 12: true, 13: false, 20: false, 25: false, 30: false,
		-4: false, -1: false, 0: true, 1: false,
		0xcfff: false, 0xd000: true, 0xd7ff: true, 0xd800: false, 0xdabc: false, 0xdfff: false, 0xe000: true, 0xe001: true, 0xe002: false,
		0x10fffe: false, 0x10ffff: true, 0x110000: false, math.MaxInt: false, math.MinInt: false,
	} {
		if set.Has(l, r) != want {
			t.Errorf("Has of %x: not %t", r, want)
		}
	}
	if set.Has(nil, 0) || set.Has([]api.Span{}, 0) {
		t.Error("nothing has something")
	}
}

func TestSize(t *testing.T) {
	for _, c := range []struct {
		what string
		l    []api.Span
		want int
	}{
		{"nil", nil, 0},
		{"empty", []api.Span{}, 0},
		{"one", spans(7, 7), 1},
		{"two that touch", spans(0, 4, 5, 9), 10},
		{"what two tell counts once", spans(0, 6, 4, 9), 10},
		{"the same twice", spans(0, 9, 0, 9), 10},
		{"Lo above Hi", spans(9, 8, math.MaxInt, math.MinInt), 0},
		{"surrogates", spans(0xd800, 0xdfff), 0},
		{"over the surrogates", spans(0xd7ff, 0xe000), 2},
		{"below 0", spans(math.MinInt, -1), 0},
		{"above 10ffff", spans(0x110000, math.MaxInt), 0},
		{"all", spans(math.MinInt, math.MaxInt), 0x110000 - 0x800},
	} {
		if n := set.Size(c.l); n != c.want {
			t.Errorf("%s: %d, want %d", c.what, n, c.want)
		}
	}
}

func TestSame(t *testing.T) {
	for _, c := range []struct {
		what string
		a, b []api.Span
		want bool
	}{
		{"nil and empty", nil, []api.Span{}, true},
		{"nil and spans of nothing", nil, spans(3, 2, 0xd800, 0xdfff, -9, -1, 0x110000, 0x110001), true},
		{"in another order", spans(0, 4, 8, 9), spans(8, 9, 0, 4), true},
		{"in other pieces", spans(0, 9), spans(5, 9, 0, 6, 7, 2), true},
		{"with and without surrogates", spans(0, 0x10ffff), spans(0, 0xd7ff, 0xe000, 0x10ffff), true},
		{"with and without other numbers", spans(-7, 3), spans(0, 3), true},
		{"nil and one", nil, spans(0, 0), false},
		{"one more behind", spans(0, 4), spans(0, 5), false},
		{"one more ahead", spans(1, 4), spans(0, 4), false},
		{"one missing within", spans(0, 9), spans(0, 4, 6, 9), false},
		{"a front", spans(0, 4, 8, 9), spans(0, 4), false},
		{"as many, others", spans(0, 4), spans(5, 9), false},
	} {
		if set.Same(c.a, c.b) != c.want || set.Same(c.b, c.a) != c.want {
			t.Errorf("%s: not %t", c.what, c.want)
		}
	}
}

func TestUnion(t *testing.T) {
	expectSet(t, "of none", set.Union(), nil)
	expectSet(t, "of nothings", set.Union(nil, []api.Span{}, nil), nil)
	expectSet(t, "of one", set.Union(spans(5, 9, 0, 4, 7, 2)), spans(0, 9))
	expectSet(t, "of two", set.Union(spans(5, 9), spans(0, 3)), spans(0, 3, 5, 9))
	expectSet(t, "of two that touch", set.Union(spans(5, 9), spans(0, 4)), spans(0, 9))
	expectSet(t, "of three", set.Union(spans(20, 30), spans(0, 4), spans(3, 19)), spans(0, 30))
	expectSet(t, "of three, one of them nil", set.Union(spans(20, 30), nil, spans(0, 4)), spans(0, 4, 20, 30))
	expectSet(t, "at the surrogates", set.Union(spans(0, 0xd7ff), spans(0xd800, 0xdfff), spans(0xe000, 0x10ffff)), spans(0, 0xd7ff, 0xe000, 0x10ffff))
	expectSet(t, "with numbers that are no scalars", set.Union(spans(math.MinInt, 0), spans(0x10ffff, math.MaxInt)), spans(0, 0, 0x10ffff, 0x10ffff))
}

func TestInter(t *testing.T) {
	expectSet(t, "of nothings", set.Inter(nil, []api.Span{}), nil)
	expectSet(t, "with nothing", set.Inter(spans(0, 9), nil), nil)
	expectSet(t, "of nothing", set.Inter(nil, spans(0, 9)), nil)
	expectSet(t, "overlapping", set.Inter(spans(0, 6), spans(4, 9)), spans(4, 6))
	expectSet(t, "touching", set.Inter(spans(0, 4), spans(5, 9)), nil)
	expectSet(t, "by one", set.Inter(spans(0, 5), spans(5, 9)), spans(5, 5))
	expectSet(t, "in pieces that touch", set.Inter(spans(0, 9), spans(5, 7, 2, 4)), spans(2, 7))
	expectSet(t, "of a list with one twice", set.Inter(spans(0, 9, 0, 9), spans(20, 30)), nil)
	expectSet(t, "over the surrogates", set.Inter(spans(0xd7f0, 0xe00f), spans(0xd7ff, 0xe000)), spans(0xd7ff, 0xd7ff, 0xe000, 0xe000))
	expectSet(t, "of surrogates", set.Inter(spans(0xd800, 0xdfff), spans(0xd800, 0xdfff)), nil)
	expectSet(t, "of all numbers", set.Inter(spans(math.MinInt, math.MaxInt), spans(math.MinInt, math.MaxInt)), set.Not(nil))
}

func TestMinus(t *testing.T) {
	expectSet(t, "of nothings", set.Minus(nil, []api.Span{}), nil)
	expectSet(t, "of nothing", set.Minus(nil, spans(0, 9)), nil)
	expectSet(t, "nothing less", set.Minus(spans(5, 9, 0, 4), nil), spans(0, 9))
	expectSet(t, "itself", set.Minus(spans(0, 9), spans(0, 9)), nil)
	expectSet(t, "the middle", set.Minus(spans(0, 9), spans(4, 5)), spans(0, 3, 6, 9))
	expectSet(t, "the front", set.Minus(spans(0, 9), spans(-3, 4)), spans(5, 9))
	expectSet(t, "the end", set.Minus(spans(0, 9), spans(5, 20)), spans(0, 4))
	expectSet(t, "what only touches", set.Minus(spans(5, 9), spans(0, 4, 10, 12)), spans(5, 9))
	expectSet(t, "once of what is there twice", set.Minus(spans(0, 9, 0, 9), spans(0, 9)), nil)
	expectSet(t, "a wrong span", set.Minus(spans(0, 9), spans(9, 0)), spans(0, 9))
	expectSet(t, "surrogates", set.Minus(spans(0xd7ff, 0xe000), spans(0xd800, 0xdfff)), spans(0xd7ff, 0xd7ff, 0xe000, 0xe000))
	expectSet(t, "over the surrogates", set.Minus(spans(0xd700, 0xe0ff), spans(0xd7ff, 0xe000)), spans(0xd700, 0xd7fe, 0xe001, 0xe0ff))
}

func TestNot(t *testing.T) {
	all := spans(0, 0xd7ff, 0xe000, 0x10ffff)
	expectSet(t, "nil", set.Not(nil), all)
	expectSet(t, "empty", set.Not([]api.Span{}), all)
	expectSet(t, "surrogates", set.Not(spans(0xd800, 0xdfff)), all)
	expectSet(t, "other numbers", set.Not(spans(math.MinInt, -1, 0x110000, math.MaxInt)), all)
	expectSet(t, "Lo above Hi", set.Not(spans(9, 0)), all)
	expectSet(t, "all", set.Not(all), nil)
	expectSet(t, "all numbers", set.Not(spans(math.MinInt, math.MaxInt)), nil)
	expectSet(t, "the middle", set.Not(spans(5, 9)), spans(0, 4, 10, 0xd7ff, 0xe000, 0x10ffff))
	expectSet(t, "the ends", set.Not(spans(0, 0, 0x10ffff, 0x10ffff)), spans(1, 0xd7ff, 0xe000, 0x10fffe))
	expectSet(t, "beside the surrogates", set.Not(spans(0xd7ff, 0xe000)), spans(0, 0xd7fe, 0xe001, 0x10ffff))
}
