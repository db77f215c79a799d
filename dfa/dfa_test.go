package dfa_test

import (
	"fmt"
	"math"
	"slices"
	"strconv"
	"strings"
	"testing"

	"glyphcutter/api"
	"glyphcutter/dfa"
	"glyphcutter/nfa"
	"glyphcutter/rx"
)

// spans takes Lo and Hi in turn.
func spans(n ...int) []api.Span {
	var out []api.Span
	for i := 0; i+1 < len(n); i += 2 {
		out = append(out, api.Span{Lo: n[i], Hi: n[i+1]})
	}
	return out
}

// number is that of a text.
func number(t *testing.T, s string) int {
	t.Helper()
	k, err := strconv.Atoi(s)
	if err != nil {
		t.Fatal(err)
	}
	return k
}

// letters is a set written as letters with commas between, or two with a stroke: "a,c-e".
func letters(s string) []api.Span {
	var out []api.Span
	for _, part := range strings.Split(s, ",") {
		if part != "" {
			out = append(out, api.Span{Lo: int(part[0]), Hi: int(part[len(part)-1])})
		}
	}
	return out
}

// many is a machine that goes many ways, a text for each state: a set and an edge's place behind ">"; a free way's behind "~"; the tag behind "#".
func many(t *testing.T, states ...string) api.Nfa {
	t.Helper()
	n := api.Nfa{Edges: make([][]api.Edge, len(states)), Free: make([][]int, len(states))}
	for i, state := range states {
		n.Tags = append(n.Tags, -1)
		for _, part := range strings.Fields(state) {
			set, to, _ := strings.Cut(part, ">")
			switch part[0] {
			case '~':
				n.Free[i] = append(n.Free[i], number(t, part[1:]))
			case '#':
				n.Tags[i] = number(t, part[1:])
			default:
				n.Edges[i] = append(n.Edges[i], api.Edge{To: number(t, to), Set: letters(set)})
			}
		}
	}
	if !nfa.Sound(n) {
		t.Fatalf("not Sound: %q", states)
	}
	return n
}

// one is a machine that goes one way: its parts, and a text for each state: where it goes by each part, "." for nowhere; the tag behind "#".
func one(t *testing.T, parts string, states ...string) api.Dfa {
	t.Helper()
	var d api.Dfa
	for _, part := range strings.Fields(parts) {
		d.Parts = append(d.Parts, letters(part))
	}
	for i, state := range states {
		d.Next = append(d.Next, nil)
		d.Tags = append(d.Tags, -1)
		for _, to := range strings.Fields(state) {
			switch {
			case to[0] == '#':
				d.Tags[i] = number(t, to[1:])
			case to == ".":
				d.Next[i] = append(d.Next[i], -1)
			default:
				d.Next[i] = append(d.Next[i], number(t, to))
			}
		}
	}
	return d
}

// same says whether two machines are alike, lists that are nil and empty ones too.
func same(x, y api.Dfa) bool {
	return slices.EqualFunc(x.Parts, y.Parts, slices.Equal[[]api.Span]) && slices.EqualFunc(x.Next, y.Next, slices.Equal[[]int]) && slices.Equal(x.Tags, y.Tags)
}

// patterns is the machine of some patterns.
func patterns(t *testing.T, texts ...string) api.Nfa {
	t.Helper()
	var l []api.Node
	for _, s := range texts {
		n, e, at := rx.Parse(s, nil)
		if e != api.OK {
			t.Fatalf("%q: %d, %d", s, e, at)
		}
		l = append(l, n)
	}
	n, e := nfa.Build(l)
	if e != api.OK {
		t.Fatalf("%q: %d", texts, e)
	}
	return n
}

// scalars is those of a text.
func scalars(s string) []int {
	var out []int
	for _, r := range s {
		out = append(out, int(r))
	}
	return out
}

// brief is a value as a text that is not very long.
func brief(x any) string {
	s := fmt.Sprint(x)
	return s[:min(len(s), 2000)]
}

// made is the machine of another one, of which there is one.
func made(t *testing.T, n api.Nfa) api.Dfa {
	t.Helper()
	d, e := dfa.Of(n, api.MaxStates)
	if e != api.OK {
		t.Fatalf("Of: %d", e)
	}
	return d
}

// expectOf asks for a whole machine: it is told, if just so many states may be, and too long, if one fewer may be.
func expectOf(t *testing.T, what string, n api.Nfa, want api.Dfa) {
	t.Helper()
	states := len(want.Tags)
	for _, most := range []int{states, states + 1, api.MaxStates} {
		if got, e := dfa.Of(n, most); e != api.OK || !same(got, want) {
			t.Errorf("%s, at most %d: %d, %s, want %s", what, most, e, brief(got), brief(want))
		}
	}
	for most := 1; most < states; most++ {
		expectError(t, what, n, most, api.ErrLong)
	}
	if !dfa.Sound(want) {
		t.Errorf("%s: not Sound", what)
	}
}

// expectError asks for an error, and for nothing beside it.
func expectError(t *testing.T, what string, n api.Nfa, most int, want api.Errno) {
	t.Helper()
	if d, e := dfa.Of(n, most); e != want || len(d.Parts)+len(d.Next)+len(d.Tags) > 0 {
		t.Errorf("%s, at most %d: %d, %s, want the error %d", what, most, e, brief(d), want)
	}
}

// expectLongest asks for the longest front of a text.
func expectLongest(t *testing.T, what string, d api.Dfa, s []int, length, tag int) {
	t.Helper()
	if k, told := dfa.Longest(d, s); k != length || told != tag {
		t.Errorf("%s: Longest is %d, %d, want %d, %d", what, k, told, length, tag)
	}
}

func TestExample(t *testing.T) {
	expectOf(t, "a|ab", patterns(t, "a|ab"), one(t, "a b", "1 .", ". 2 #0", ". . #0"))
}

func TestOf(t *testing.T) {
	for _, c := range []struct {
		what string
		n    api.Nfa
		want api.Dfa
	}{
		{"one state", many(t, ""), one(t, "", "")},
		{"one state with a tag", many(t, "#7"), one(t, "", "#7")},
		{"the greatest tag", api.Nfa{Edges: [][]api.Edge{nil}, Free: [][]int{nil}, Tags: []int{math.MaxInt}}, api.Dfa{Next: [][]int{nil}, Tags: []int{math.MaxInt}}},
		{"state 0 is all that is come to by nothing", many(t, "~1", "~2 a>3", "#4", "#5"), one(t, "a", "1 #4", ". #5")},
		{"the least tag of some", many(t, "a>1 a>2 a>3", "#6", "#4", "#5"), one(t, "a", "1", ". #4")},
		{"the tag 0 among some", many(t, "a>1 a>2 a>3", "", "#4", "#0"), one(t, "a", "1", ". #0")},
		{"to itself", many(t, "a>0 #1"), one(t, "a", "0 #1")},
		{"back to state 0", many(t, "a>1", "b>0"), one(t, "a b", "1 .", ". 0")},
		{"back to what state 0 is, by a free way", many(t, "~1", "a>0"), one(t, "a", "0")},
		{"not to state 0, if it is more than the one", many(t, "~1 a>0 #3", "b>1"), one(t, "a b", "0 1 #3", ". 1")},
		{"parts, rising, in whatever order the edges stand", many(t, "c>1 a>1 b>1", "a>1"), one(t, "a b c", "1 1 1", "1 . .")},
		{"states by parts, not by edges", many(t, "c>1 b>2 a>3", "#1", "#2", "#3"), one(t, "a b c", "1 2 3", ". . . #3", ". . . #2", ". . . #1")},
		{"state by state", many(t, "a>1 b>2", "b>3", "a>4", "#0", "#1 a>3"), one(t, "a b", "1 2", ". 3", "4 .", ". . #0", "3 . #1")},
		{"sets that overlap", many(t, "a-c>1 b-d>2", "#0", "#1"), one(t, "a b-c d", "1 2 3", ". . . #0", ". . . #0", ". . . #1")},
		{"two ways that part", many(t, "a>1 a>2", "b>3", "c>3", "#2"), one(t, "a b c", "1 . .", ". 2 2", ". . . #2")},
		{"one state of the same states, by any ways", many(t, "a>1 b>2 c>3", "~2", "~1", "~1 ~2"), one(t, "a b c", "1 1 2", ". . .", ". . .")},
		{"alike, but other states", many(t, "a>1 b>2", "#0", "#0"), one(t, "a b", "1 2", ". . #0", ". . #0")},
		{"parts of states that are not come to", many(t, "b>0", "a-c>1 #5"), one(t, "a,c b", ". 0")},
		{"the empty set leads nowhere, and is no part", many(t, ">1 a>0", "#3"), one(t, "a", "0")},
		{"nothing but the empty set", many(t, ">1", "#3"), one(t, "", "")},
		{"a state without a tag, from which nothing leads", many(t, "a>1", ""), one(t, "a", "1", ".")},
		{"a tag that is not come to", many(t, "a>0", "#0"), one(t, "a", "0")},
		{"no free way ahead of the edge but what was gone", many(t, "a>1", "~2", "b>3 ~0", "#0"), one(t, "a b", "1 .", "1 2", ". . #0")},
	} {
		expectOf(t, c.what, c.n, c.want)
	}
}

// TestOfSets: edges by sets with many spans, at the ends of the scalars too.
func TestOfSets(t *testing.T) {
	all := spans(0, 0xd7ff, 0xe000, 0x10ffff)
	few := spans(0, 0, 5, 9, 0xd7ff, 0xd7ff, 0xe000, 0xe001, 0x10ffff, 0x10ffff)
	n := api.Nfa{
		Edges: [][]api.Edge{{{To: 0, Set: all}, {To: 1, Set: few}}, {{To: 1, Set: spans(5, 7)}}},
		Free:  [][]int{nil, nil},
		Tags:  []int{3, 1},
	}
	// From 0 all lead to 0 alone, and those of few to both.
	expectOf(t, "three parts", n, api.Dfa{
		Parts: [][]api.Span{
			spans(0, 0, 8, 9, 0xd7ff, 0xd7ff, 0xe000, 0xe001, 0x10ffff, 0x10ffff),
			spans(1, 4, 10, 0xd7fe, 0xe002, 0x10fffe),
			spans(5, 7),
		},
		Next: [][]int{{1, 0, 1}, {1, 0, 1}},
		Tags: []int{3, 1},
	})
}

// TestOfPatterns: of the document's own patterns.
func TestOfPatterns(t *testing.T) {
	expectOf(t, "a and a*", patterns(t, "a", "a*"), one(t, "a", "1 #1", "2 #0", "2 #1"))
	expectOf(t, "a word and a name", patterns(t, "if", "[a-z]+"), api.Dfa{
		Parts: [][]api.Span{spans('a', 'e', 'g', 'h', 'j', 'z'), spans('f', 'f'), spans('i', 'i')},
		Next:  [][]int{{1, 1, 2}, {3, 3, 3}, {3, 4, 3}, {3, 3, 3}, {3, 3, 3}},
		Tags:  []int{-1, 1, 1, 1, 0},
	})
	expectOf(t, "numbers", patterns(t, "[0-9]+", "[0-9]+[.][0-9]+"), one(t, ". 0-9", ". 1", "2 3 #0", ". 4", "2 3 #0", ". 5 #1", ". 5 #1"))
	expectOf(t, "nothing at all", patterns(t, "()"), one(t, "", "#0"))
}

// TestMost: how many states there may be is 1 to 2000, and that is asked ahead of how many there are.
func TestMost(t *testing.T) {
	small, great := many(t, "a>0"), patterns(t, "(a|b)*a(a|b){11}")
	for _, most := range []int{0, -1, -2, 2001, 2002, 1 << 32, 1<<32 + 1, math.MinInt, math.MaxInt} {
		expectError(t, "a small one", small, most, api.ErrArg)
		expectError(t, "a great one", great, most, api.ErrArg)
	}
	for _, most := range []int{1, 2, 1999, 2000} {
		if _, e := dfa.Of(small, most); e != api.OK {
			t.Errorf("at most %d: %d", most, e)
		}
		expectError(t, "a great one", great, most, api.ErrLong)
	}
}

// TestUnsound: of a machine that may not be there is none, be most what it may.
func TestUnsound(t *testing.T) {
	sound := func() api.Nfa {
		return api.Nfa{Edges: [][]api.Edge{{{To: 1, Set: spans('a', 'a')}}, nil}, Free: [][]int{nil, {0}}, Tags: []int{-1, 0}}
	}
	for what, spoil := range map[string]func(n *api.Nfa){
		"no states":       func(n *api.Nfa) { *n = api.Nfa{} },
		"tags alone":      func(n *api.Nfa) { *n = api.Nfa{Tags: []int{1}} },
		"more tags":       func(n *api.Nfa) { n.Tags = append(n.Tags, -1) },
		"fewer edges":     func(n *api.Nfa) { n.Edges = n.Edges[:1] },
		"more free ways":  func(n *api.Nfa) { n.Free = append(n.Free, nil) },
		"an edge too far": func(n *api.Nfa) { n.Edges[1] = []api.Edge{{To: 2, Set: spans('a', 'a')}} },
		"an edge below 0": func(n *api.Nfa) { n.Edges[1] = []api.Edge{{To: -1, Set: spans('a', 'a')}} },
		"a way too far":   func(n *api.Nfa) { n.Free[1] = []int{0, 2} },
		"a way below 0":   func(n *api.Nfa) { n.Free[0] = []int{math.MinInt} },
		"a tag below -1":  func(n *api.Nfa) { n.Tags[0] = -2 },
		"a span of none":  func(n *api.Nfa) { n.Edges[0][0].Set = spans('b', 'a') },
		"touching spans":  func(n *api.Nfa) { n.Edges[0][0].Set = spans('a', 'b', 'c', 'd') },
		"a surrogate":     func(n *api.Nfa) { n.Edges[0][0].Set = spans('a', 0xd800) },
		"above 10ffff":    func(n *api.Nfa) { n.Edges[0][0].Set = spans('a', 'b', 0xe000, 0x110000) },
		"too many states": func(n *api.Nfa) { *n = row(2001) },
	} {
		n := sound()
		spoil(&n)
		for _, most := range []int{1, 2, 2000, 0, 2001} {
			expectError(t, what, n, most, api.ErrArg)
		}
	}
	if _, e := dfa.Of(sound(), 2); e != api.OK {
		t.Error("what was spoilt was not right ahead of it")
	}
}

func TestLongest(t *testing.T) {
	for _, c := range []struct {
		what   string
		d      api.Dfa
		s      string
		length int
		tag    int
	}{
		{"nothing, of nothing", one(t, "", ""), "", 0, -1},
		{"nothing", one(t, "a", "0"), "aaa", 0, -1},
		{"nothing is no front", one(t, "", "#0"), "a", 0, -1},
		{"nothing is no front of nothing", one(t, "a", "0 #0"), "", 0, -1},
		{"but behind one scalar", one(t, "a", "0 #4"), "ab", 1, 4},
		{"all of it", one(t, "a", "0 #4"), "aaaa", 4, 4},
		{"the tag 0", one(t, "a", "1", ". #0"), "aa", 1, 0},
		{"over a gap", one(t, "a b c", "1 . .", ". 2 . #5", ". . 3", ". . . #2"), "abcd", 3, 2},
		{"back to what was ahead of the gap", one(t, "a b c", "1 . .", ". 2 . #2", ". . 3", ". . . #5"), "abd", 1, 2},
		{"the longer one, though its tag is greater", one(t, "a b", "1 .", ". 2 #0", ". . #9"), "ab", 2, 9},
		{"nothing behind where it goes nowhere", one(t, "a b", "0 . #1"), "abaa", 1, 1},
		{"nor behind what is in no part", one(t, "a b", "0 . #1"), "acaa", 1, 1},
		{"at once", one(t, "a b", "0 . #1"), "baaa", 0, -1},
		{"at once, in no part", one(t, "a b", "0 0 #1"), "caaa", 0, -1},
		{"parts that are not rising", one(t, "c a b", ". 1 .", ". . 2", "3 . .", ". . . #6"), "abca", 3, 6},
		{"parts that lie within one another", one(t, "a,e-f,z c b,d,y", "0 . 1 #2", ". 1 0 #3"), "aebcyfzdc", 9, 3},
		{"a state by itself, far off", one(t, "a", ".", "1 #1"), "aaa", 0, -1},
		{"no parts", one(t, "", "#1", "#2"), "a", 0, -1},
	} {
		expectLongest(t, c.what, c.d, scalars(c.s), c.length, c.tag)
	}
}

// TestLongestByEnds: a part leads by the first and the last scalar of each span, and by none beside them.
func TestLongestByEnds(t *testing.T) {
	ends := spans(0, 0, 5, 9, 0xd7ff, 0xd7ff, 0xe000, 0xe001, 0x10ffff, 0x10ffff)
	few := api.Dfa{Parts: [][]api.Span{nil, spans(11, 11), ends}, Next: [][]int{{-1, -1, 0}}, Tags: []int{7}}
	all := api.Dfa{Parts: [][]api.Span{spans(0, 0xd7ff, 0xe000, 0x10ffff)}, Next: [][]int{{0}}, Tags: []int{8}}
	for _, r := range []int{0, 5, 7, 9, 0xd7ff, 0xe000, 0xe001, 0x10ffff} {
		expectLongest(t, strconv.Itoa(r), few, []int{r, r}, 2, 7)
		expectLongest(t, strconv.Itoa(r), all, []int{r, r}, 2, 8)
	}
	for _, r := range []int{1, 4, 10, 11, 12, 0xd7fe, 0xe002, 0x10fffe} {
		expectLongest(t, strconv.Itoa(r), few, []int{5, r, 5}, 1, 7)
		expectLongest(t, strconv.Itoa(r), all, []int{5, r, 5}, 3, 8)
	}
	for _, r := range []int{-1, 0xd800, 0xdc00, 0xdfff, 0x110000, 1 << 32, math.MinInt, math.MaxInt} {
		expectLongest(t, strconv.Itoa(r), few, []int{5, r, 5}, 1, 7)
		expectLongest(t, strconv.Itoa(r), all, []int{5, r, 5}, 1, 8)
		expectLongest(t, strconv.Itoa(r), all, []int{r}, 0, -1)
	}
}

// TestLongestOfPatterns: what the document's own patterns tell.
func TestLongestOfPatterns(t *testing.T) {
	words := made(t, patterns(t, "if", "[a-z]+", "[0-9]+", "[0-9]+[.][0-9]+", "[ ]*"))
	for _, c := range []struct {
		s      string
		length int
		tag    int
	}{
		{"if", 2, 0}, {"iff", 3, 1}, {"i f", 1, 1}, {"12.5", 4, 3}, {"12.x", 2, 2}, {"12.", 2, 2}, {"   a", 3, 4}, {"!", 0, -1}, {"", 0, -1},
	} {
		expectLongest(t, c.s, words, scalars(c.s), c.length, c.tag)
	}
	expectLongest(t, "the last scalar", made(t, patterns(t, ".", "\\x{10ffff}+")), []int{0x10ffff, 0x10ffff, '\n'}, 2, 1)
	expectLongest(t, "what tells nothing, too", made(t, patterns(t, "()", "(a|b)*")), scalars("c"), 0, -1)
}
