package write_test

import (
	"math"
	"slices"
	"strings"
	"testing"

	"glyphcutter/api"
	"glyphcutter/rx"
	"glyphcutter/write"
)

// spans takes Lo and Hi in turn.
func spans(n ...int) []api.Span {
	var out []api.Span
	for i := 0; i+1 < len(n); i += 2 {
		out = append(out, api.Span{Lo: n[i], Hi: n[i+1]})
	}
	return out
}

// chars takes Lo and Hi in turn.
func chars(n ...int) api.Node { return api.Node{Kind: api.Chars, Set: spans(n...)} }

func cat(kids ...api.Node) api.Node { return api.Node{Kind: api.Cat, Kids: kids} }

func or(kids ...api.Node) api.Node { return api.Node{Kind: api.Or, Kids: kids} }

func rep(least, most int, kid api.Node) api.Node {
	return api.Node{Kind: api.Rep, Kids: []api.Node{kid}, Min: least, Max: most}
}

var (
	empty = api.Node{Kind: api.Empty}
	a     = chars('a', 'a')
	b     = chars('b', 'b')
	c     = chars('c', 'c')
)

// The texts of a, b and c, with x for one of no scalar, in the texts that are asked for below.
var letters = strings.NewReplacer(
	"a", `[\x{61}-\x{61}]`,
	"b", `[\x{62}-\x{62}]`,
	"c", `[\x{63}-\x{63}]`,
	"x", `[^\x{0}-\x{10ffff}]`,
)

// same says whether two nodes are alike in all that they have.
func same(x, y api.Node) bool {
	return x.Kind == y.Kind && x.Min == y.Min && x.Max == y.Max && slices.Equal(x.Set, y.Set) && slices.EqualFunc(x.Kids, y.Kids, same)
}

// expectText asks for the text of a node that is sound.
func expectText(t *testing.T, n api.Node, want string) {
	t.Helper()
	if !write.Sound(n) {
		t.Errorf("not Sound: %v", n)
	}
	if got := write.Write(n); got != want {
		t.Errorf("Write of %v: %q, want %q", n, got, want)
	}
}

// expectUnsound asks for what is answered of a node that is not sound: by itself, and below others.
func expectUnsound(t *testing.T, what string, n api.Node) {
	t.Helper()
	for where, x := range map[string]api.Node{
		"alone": n, "the first of Cat": cat(n, a), "the last of Cat": cat(a, b, n), "the first of Or": or(n, a), "the last of Or": or(a, b, n), "of Rep": rep(1, 2, n),
		"far below": rep(0, -1, or(empty, cat(a, rep(3, 4, or(b, n))))),
	} {
		if write.Sound(x) {
			t.Errorf("%s, %s: Sound", what, where)
		}
		if s := write.Write(x); s != "" {
			t.Errorf("%s, %s: Write: %q", what, where, s)
		}
	}
}

func TestExample(t *testing.T) {
	n, e, _ := rx.Parse("a|b*", nil)
	if e != api.OK {
		t.Fatal(e)
	}
	expectText(t, n, `[\x{61}-\x{61}]|[\x{62}-\x{62}]{0,}`)
}

func TestEmpty(t *testing.T) {
	expectText(t, empty, "()")
	expectText(t, api.Node{}, "()")
}

func TestSets(t *testing.T) {
	for want, n := range map[string]api.Node{
		`[\x{61}-\x{61}]`:                          a,
		`[\x{61}-\x{7a}]`:                          chars('a', 'z'),
		`[\x{30}-\x{39}\x{61}-\x{66}]`:             chars('0', '9', 'a', 'f'),
		`[\x{0}-\x{0}]`:                            chars(0, 0),
		`[\x{a}-\x{a}\x{10}-\x{10}]`:               chars(0xa, 0xa, 0x10, 0x10),
		`[\x{abc}-\x{def}]`:                        chars(0xabc, 0xdef),
		`[\x{d7ff}-\x{d7ff}\x{e000}-\x{e000}]`:     chars(0xd7ff, 0xd7ff, 0xe000, 0xe000),
		`[\x{0}-\x{d7ff}\x{e000}-\x{10ffff}]`:      chars(0, 0xd7ff, 0xe000, 0x10ffff),
		`[\x{ffff}-\x{10000}\x{fffff}-\x{10ffff}]`: chars(0xffff, 0x10000, 0xfffff, 0x10ffff),
		`[^\x{0}-\x{10ffff}]`:                      chars(),
		`[\x{2d}-\x{2d}\x{5b}-\x{5e}]`:             chars('-', '-', '[', '^'),
	} {
		expectText(t, n, want)
	}
}

// TestBrackets holds which kinds stand in brackets within which.
func TestBrackets(t *testing.T) {
	none := chars()
	for want, n := range map[string]api.Node{
		"ab": cat(a, b), "abc": cat(a, b, c), "aa": cat(a, a), "ba": cat(b, a), "ax": cat(a, none),
		"a|b": or(a, b), "a|b|c": or(a, b, c), "a|a": or(a, a), "b|a": or(b, a), "x|a": or(none, a),
		"()a": cat(empty, a), "a()": cat(a, empty), "()()": cat(empty, empty), "()|a": or(empty, a), "a|()": or(a, empty), "()|()|()": or(empty, empty, empty),
		"(ab)c": cat(cat(a, b), c), "a(bc)": cat(a, cat(b, c)), "(a|b)c": cat(or(a, b), c), "a(b|c)": cat(a, or(b, c)), "(ab)(c|a)": cat(cat(a, b), or(c, a)),
		"ab|c": or(cat(a, b), c), "a|bc": or(a, cat(b, c)), "(a|b)|c": or(or(a, b), c), "a|(b|c)": or(a, or(b, c)), "ab|(b|c)": or(cat(a, b), or(b, c)),
		"a{0,}b": cat(rep(0, -1, a), b), "ab{1,2}": cat(a, rep(1, 2, b)), "a{0,}|b": or(rep(0, -1, a), b), "a|b{1,2}": or(a, rep(1, 2, b)),
		"(ab){0,}": rep(0, -1, cat(a, b)), "(a|b){0,}": rep(0, -1, or(a, b)), "(a{0,}){1,2}": rep(1, 2, rep(0, -1, a)), "(){0,}": rep(0, -1, empty), "x{0,}": rep(0, -1, none),
		"((a{0,}){1,}){2,2}": rep(2, 2, rep(1, -1, rep(0, -1, a))), "((ab|c){1,}|b)a": cat(or(rep(1, -1, or(cat(a, b), c)), b), a),
		"((ab)c)a": cat(cat(cat(a, b), c), a), "((a|b)|c)|a": or(or(or(a, b), c), a),
	} {
		expectText(t, n, letters.Replace(want))
	}
}

func TestTimes(t *testing.T) {
	for want, n := range map[string]api.Node{
		"a{0,}": rep(0, -1, a), "a{1,}": rep(1, -1, a), "a{20,}": rep(20, -1, a),
		"a{0,0}": rep(0, 0, a), "a{0,1}": rep(0, 1, a), "a{3,3}": rep(3, 3, a), "a{9,10}": rep(9, 10, a), "a{0,20}": rep(0, 20, a), "a{19,20}": rep(19, 20, a), "a{20,20}": rep(20, 20, a),
	} {
		expectText(t, n, letters.Replace(want))
	}
}

func TestWrongKinds(t *testing.T) {
	for kind := 5; kind < 256; kind++ {
		if write.Sound(api.Node{Kind: uint8(kind)}) {
			t.Errorf("kind %d: Sound", kind)
		}
	}
	for _, kind := range []uint8{5, 9, 128, 255} {
		expectUnsound(t, "no kind", api.Node{Kind: kind})
		expectUnsound(t, "no kind, with a set", api.Node{Kind: kind, Set: spans('a', 'a')})
		expectUnsound(t, "no kind, with a kid", api.Node{Kind: kind, Kids: []api.Node{a}})
		expectUnsound(t, "no kind, with kids", api.Node{Kind: kind, Kids: []api.Node{a, b}})
	}
}

// TestWhatIsNotNought: what a kind does not have must be nought.
func TestWhatIsNotNought(t *testing.T) {
	for what, n := range map[string]api.Node{"Empty": empty, "Chars": a, "Chars of nothing": chars(), "Cat": cat(a, b), "Or": or(a, b)} {
		for _, times := range [][2]int{{1, 0}, {0, 1}, {-1, 0}, {0, -1}, {1, 1}, {1, -1}, {0, 20}, {math.MaxInt, 0}, {0, math.MinInt}} {
			x := n
			x.Min, x.Max = times[0], times[1]
			expectUnsound(t, what+" with times", x)
		}
		if n.Kind != api.Chars {
			x := n
			x.Set = spans('a', 'a')
			expectUnsound(t, what+" with a set", x)
			x.Set = spans(3, 2)
			expectUnsound(t, what+" with a span of nothing", x)
		}
		if len(n.Kids) == 0 {
			x := n
			x.Kids = []api.Node{a}
			expectUnsound(t, what+" with a kid", x)
			x.Kids = []api.Node{empty, empty}
			expectUnsound(t, what+" with kids", x)
		}
	}
	n := rep(0, -1, a)
	n.Set = spans('a', 'a')
	expectUnsound(t, "Rep with a set", n)
}

func TestWrongSets(t *testing.T) {
	for what, n := range map[string]api.Node{
		"Lo above Hi": chars(9, 8), "touching": chars(0, 4, 5, 9), "overlapping": chars(0, 6, 4, 9), "falling": chars(8, 9, 0, 4), "the same twice": chars(3, 4, 3, 4),
		"a surrogate": chars(0xd800, 0xd800), "over the surrogates": chars(0, 0x10ffff), "into them": chars(0xd000, 0xd800), "out of them": chars(0xdfff, 0xe000), "all of them": chars(0xd800, 0xdfff),
		"below 0": chars(-1, 3), "wholly below 0": chars(-3, -1), "above 10ffff": chars(0x10ffff, 0x110000), "wholly above 10ffff": chars(0x110000, 0x110000), "all numbers": chars(math.MinInt, math.MaxInt),
		"a wrong one behind": chars(0, 4, 9, 8), "a wrong one ahead": chars(9, 8, 20, 30),
	} {
		expectUnsound(t, what, n)
	}
}

func TestWrongKids(t *testing.T) {
	expectUnsound(t, "Cat of none", cat())
	expectUnsound(t, "Cat of one", cat(a))
	expectUnsound(t, "Or of none", or())
	expectUnsound(t, "Or of one", or(a))
	expectUnsound(t, "Rep of none", api.Node{Kind: api.Rep, Max: -1})
	expectUnsound(t, "Rep of two", api.Node{Kind: api.Rep, Max: -1, Kids: []api.Node{a, b}})
}

func TestWrongTimes(t *testing.T) {
	for _, times := range [][2]int{
		{-1, -1}, {-1, 0}, {-1, 5}, {21, -1}, {21, 21}, {21, 20}, {0, 21}, {20, 21}, {0, -2}, {3, 2}, {1, 0}, {20, 19},
		{math.MinInt, -1}, {math.MinInt, math.MaxInt}, {math.MaxInt, math.MaxInt}, {math.MaxInt, -1}, {0, math.MaxInt}, {0, math.MinInt}, {256, 256}, {0, 256},
	} {
		expectUnsound(t, "times", rep(times[0], times[1], a))
	}
}

// TestNoLists: a list that is nil and one that is empty are the same thing (R6).
func TestNoLists(t *testing.T) {
	none := func(n api.Node) api.Node {
		if n.Set == nil {
			n.Set = []api.Span{}
		}
		if n.Kids == nil {
			n.Kids = []api.Node{}
		}
		return n
	}
	expectText(t, none(empty), "()")
	expectText(t, none(a), letters.Replace("a"))
	expectText(t, none(chars()), letters.Replace("x"))
	expectText(t, none(cat(none(a), none(empty))), letters.Replace("a()"))
	expectText(t, none(or(none(a), none(b))), letters.Replace("a|b"))
	expectText(t, none(rep(0, -1, none(a))), letters.Replace("a{0,}"))
	expectUnsound(t, "Cat of none", none(cat()))
	expectUnsound(t, "Rep of none", none(api.Node{Kind: api.Rep, Max: -1}))
}

// below is a node with n others above it, one above the other.
func below(n int, x api.Node, wrap func(api.Node) api.Node) api.Node {
	for range n {
		x = wrap(x)
	}
	return x
}

// TestDepth: twenty nodes may be above one, whichever they are and wherever it stands.
func TestDepth(t *testing.T) {
	wraps := map[string]func(api.Node) api.Node{
		"Rep":           func(x api.Node) api.Node { return rep(0, -1, x) },
		"Cat, at first": func(x api.Node) api.Node { return cat(x, a) },
		"Cat, at last":  func(x api.Node) api.Node { return cat(a, b, x) },
		"Or, at first":  func(x api.Node) api.Node { return or(x, a) },
		"Or, at last":   func(x api.Node) api.Node { return or(empty, x) },
		"all in turn": func(x api.Node) api.Node {
			switch x.Kind {
			case api.Rep:
				return cat(a, x)
			case api.Cat:
				return or(x, b)
			}
			return rep(1, 2, x)
		},
	}
	for what, wrap := range wraps {
		for _, x := range []api.Node{a, empty, chars()} {
			for _, n := range []int{0, 1, 19, 20} {
				if y := below(n, x, wrap); !write.Sound(y) || write.Write(y) == "" {
					t.Errorf("%s: not Sound with %d above", what, n)
				}
			}
			for _, n := range []int{21, 22, 40, 100000} {
				if y := below(n, x, wrap); write.Sound(y) || write.Write(y) != "" {
					t.Errorf("%s: Sound with %d above", what, n)
				}
			}
		}
	}
	deep := func(x api.Node) api.Node { return rep(0, 1, x) }
	expectUnsound(t, "the deepest is too deep", cat(below(3, a, deep), below(20, a, deep), below(7, a, deep)))
	if !write.Sound(cat(below(19, a, deep), below(19, b, deep), below(3, a, deep))) {
		t.Error("what stands side by side counts as within one another")
	}
}

func TestDeepTexts(t *testing.T) {
	deep := func(x api.Node) api.Node { return rep(0, -1, x) }
	expectText(t, below(20, a, deep), strings.Repeat("(", 19)+letters.Replace("a")+"{0,}"+strings.Repeat("){0,}", 19))
	expectText(t, below(20, empty, deep), strings.Repeat("(", 19)+"(){0,}"+strings.Repeat("){0,}", 19))
	left := func(x api.Node) api.Node { return or(x, empty) }
	expectText(t, below(20, empty, left), strings.Repeat("(", 19)+"()|()"+strings.Repeat(")|()", 19))
	right := func(x api.Node) api.Node { return cat(empty, x) }
	expectText(t, below(20, empty, right), strings.Repeat("()(", 19)+"()()"+strings.Repeat(")", 19))
}
