package sim_test

import (
	"math"
	"slices"
	"strconv"
	"strings"
	"testing"

	"glyphcutter/api"
	"glyphcutter/nfa"
	"glyphcutter/rx"
	"glyphcutter/sim"
)

// spans takes Lo and Hi in turn.
func spans(n ...int) []api.Span {
	var out []api.Span
	for i := 0; i+1 < len(n); i += 2 {
		out = append(out, api.Span{Lo: n[i], Hi: n[i+1]})
	}
	return out
}

// machine is one with a state a text: a letter or two, from one to another one, or none, and an edge's place behind ">"; a free way's behind "~"; the tag behind "#".
func machine(t *testing.T, states ...string) api.Nfa {
	t.Helper()
	n := api.Nfa{Edges: make([][]api.Edge, len(states)), Free: make([][]int, len(states))}
	number := func(s string) int {
		k, err := strconv.Atoi(s)
		if err != nil {
			t.Fatal(err)
		}
		return k
	}
	for i, state := range states {
		n.Tags = append(n.Tags, -1)
		for _, part := range strings.Fields(state) {
			letters, to, _ := strings.Cut(part, ">")
			switch {
			case part[0] == '~':
				n.Free[i] = append(n.Free[i], number(part[1:]))
			case part[0] == '#':
				n.Tags[i] = number(part[1:])
			case letters == "":
				n.Edges[i] = append(n.Edges[i], api.Edge{To: number(to)})
			default:
				l := spans(int(letters[0]), int(letters[len(letters)-1]))
				n.Edges[i] = append(n.Edges[i], api.Edge{To: number(to), Set: l})
			}
		}
	}
	if !nfa.Sound(n) {
		t.Fatalf("not Sound: %q", states)
	}
	return n
}

// patterns is the machine of some patterns.
func patterns(t *testing.T, texts ...string) api.Nfa {
	t.Helper()
	var l []api.Node
	for _, s := range texts {
		n, e, at := rx.Parse(s, nil)
		if e != api.OK {
			t.Fatalf("%q: %d, %d", s, e, at)
		}
		l = append(l, n)
	}
	n, e := nfa.Build(l)
	if e != api.OK {
		t.Fatalf("%q: %d", texts, e)
	}
	return n
}

// scalars is those of a text.
func scalars(s string) []int {
	var out []int
	for _, r := range s {
		out = append(out, int(r))
	}
	return out
}

// expectList asks for a list that a call answered.
func expectList(t *testing.T, what string, got []int, want ...int) {
	t.Helper()
	if !slices.Equal(got, want) {
		t.Errorf("%s: %v, want %v", what, got, want)
	}
}

// expectLongest asks for the longest front of a text.
func expectLongest(t *testing.T, n api.Nfa, s string, length, tag int) {
	t.Helper()
	if k, told := sim.Longest(n, scalars(s)); k != length || told != tag {
		t.Errorf("Longest of %.40q: %d, %d, want %d, %d", s, k, told, length, tag)
	}
}

func TestExample(t *testing.T) {
	n := patterns(t, "a", "a*")
	expectLongest(t, n, "aa", 2, 1)
	expectLongest(t, n, "a", 1, 0)
	expectList(t, "Start", sim.Start(n), 0, 1, 3, 4, 5)
	expectList(t, "Step", sim.Step(n, sim.Start(n), 'a'), 2, 4, 5, 6)
	expectList(t, "Tags", sim.Tags(n, []int{2, 4, 5, 6}), 0, 1)
}

func TestStart(t *testing.T) {
	for _, c := range []struct {
		what   string
		states []string
		want   []int
	}{
		{"alone", []string{""}, []int{0}},
		{"no way", []string{"", "~0", "#1"}, []int{0}},
		{"a way", []string{"~1", ""}, []int{0, 1}},
		{"a way to itself", []string{"~0", ""}, []int{0}},
		{"falling ways", []string{"~4 ~2 ~3", "", "", "", ""}, []int{0, 2, 3, 4}},
		{"the same way twice", []string{"~2 ~2 ~1 ~2", "", ""}, []int{0, 1, 2}},
		{"two ways to one", []string{"~1 ~2", "~3", "~3", ""}, []int{0, 1, 2, 3}},
		{"way behind way", []string{"~3", "", "~1", "~2", ""}, []int{0, 1, 2, 3}},
		{"round about", []string{"~1", "~2", "~0 ~1", "~0"}, []int{0, 1, 2}},
		{"no way by an edge", []string{"a>1 ~2", "", "a>3 >1", ""}, []int{0, 2}},
		{"tags are nothing to it", []string{"~1 #5", "#0", "#1"}, []int{0, 1}},
	} {
		expectList(t, c.what, sim.Start(machine(t, c.states...)), c.want...)
	}
}

func TestStep(t *testing.T) {
	n := machine(t,
		"a>1 ~3 b>2 b>4",
		"~5 ab>0",
		"a-c>2 c>6 >5",
		"a>5",
		"~2 ~4 d>4",
		"~1",
		"~0",
	)
	for _, c := range []struct {
		what string
		at   []int
		r    int
		want []int
	}{
		{"an edge, and the ways behind it", []int{0}, 'a', []int{1, 5}},
		{"edges of one state", []int{0}, 'b', []int{2, 4}},
		{"a scalar without an edge", []int{0}, 'c', nil},
		{"from two states", []int{0, 2}, 'a', []int{1, 2, 5}},
		{"by one of them alone", []int{0, 2}, 'c', []int{0, 2, 3, 6}},
		{"to itself", []int{4}, 'd', []int{2, 4}},
		{"an edge by no scalar leads nowhere", []int{2}, 'a', []int{2}},
		{"ways behind ways", []int{2}, 'c', []int{0, 2, 3, 6}},
		{"no way is gone ahead of the edge", []int{6}, 'a', nil},
		{"nor is a way a step", []int{5}, 'b', nil},
		{"what is left is not told", []int{3}, 'a', []int{1, 5}},
		{"falling", []int{4, 3, 2, 1, 0}, 'b', []int{0, 2, 3, 4}},
		{"again and again", []int{0, 0, 2, 0, 2, 0}, 'a', []int{1, 2, 5}},
		{"from all", []int{0, 1, 2, 3, 4, 5, 6}, 'a', []int{0, 1, 2, 3, 5}},
		{"from none", nil, 'a', nil},
		{"from an empty list", []int{}, 'a', nil},
		{"from what is no state", []int{-1, 7, 8, math.MinInt, math.MaxInt}, 'a', nil},
		{"from what is no state, and one that is", []int{-1, 7, 0, math.MaxInt}, 'a', []int{1, 5}},
		{"far above", []int{7 + 7, 1 << 32, 1 << 40}, 'a', nil},
	} {
		expectList(t, c.what, sim.Step(n, c.at, c.r), c.want...)
	}
}

// TestStepByEnds: an edge leads by the first and the last scalar of each span, and by none beside them.
func TestStepByEnds(t *testing.T) {
	ends := spans(0, 0, 5, 9, 0xd7ff, 0xd7ff, 0xe000, 0xe001, 0x10ffff, 0x10ffff)
	n := api.Nfa{Edges: [][]api.Edge{{{To: 0, Set: ends}}}, Free: [][]int{nil}, Tags: []int{-1}}
	for _, r := range []int{0, 5, 7, 9, 0xd7ff, 0xe000, 0xe001, 0x10ffff} {
		expectList(t, "by "+strconv.Itoa(r), sim.Step(n, []int{0}, r), 0)
	}
	all := api.Nfa{Edges: [][]api.Edge{{{To: 0, Set: spans(0, 0xd7ff, 0xe000, 0x10ffff)}}}, Free: [][]int{nil}, Tags: []int{-1}}
	for _, r := range []int{1, 4, 10, 0xd7fe, 0xe002, 0x10fffe} {
		expectList(t, "by "+strconv.Itoa(r), sim.Step(n, []int{0}, r))
		expectList(t, "all, by "+strconv.Itoa(r), sim.Step(all, []int{0}, r), 0)
	}
	for _, r := range []int{-1, 0xd800, 0xdc00, 0xdfff, 0x110000, 1 << 32, math.MinInt, math.MaxInt} {
		expectList(t, "by no scalar", sim.Step(n, []int{0}, r))
		expectList(t, "all, by no scalar", sim.Step(all, []int{0}, r))
		if k, tag := sim.Longest(api.Nfa{Edges: all.Edges, Free: all.Free, Tags: []int{0}}, []int{'a', r, 'a'}); k != 1 || tag != 0 {
			t.Errorf("Longest by %d: %d, %d", r, k, tag)
		}
	}
}

func TestTags(t *testing.T) {
	n := machine(t, "#3", "", "#0", "#3", "#7", "~4 a>4", "#1")
	n.Tags[4] = math.MaxInt
	for _, c := range []struct {
		what string
		at   []int
		want []int
	}{
		{"one", []int{0}, []int{3}},
		{"the tag 0", []int{2}, []int{0}},
		{"the greatest tag", []int{4}, []int{math.MaxInt}},
		{"none", []int{1}, nil},
		{"of itself alone, not of where ways and edges lead to", []int{5}, nil},
		{"rising by tags, not by states", []int{0, 2, 6}, []int{0, 1, 3}},
		{"one tag of two states", []int{0, 3}, []int{3}},
		{"the same state twice", []int{6, 6, 6}, []int{1}},
		{"falling", []int{6, 5, 4, 3, 2, 1, 0}, []int{0, 1, 3, math.MaxInt}},
		{"no states", nil, nil},
		{"an empty list", []int{}, nil},
		{"what is no state", []int{-1, 7, math.MinInt, math.MaxInt}, nil},
		{"what is no state, and one that is", []int{7, 3, -1}, []int{3}},
	} {
		expectList(t, c.what, sim.Tags(n, c.at), c.want...)
	}
}

func TestLongest(t *testing.T) {
	for _, c := range []struct {
		what   string
		n      api.Nfa
		s      string
		length int
		tag    int
	}{
		{"nothing, of nothing", machine(t, ""), "", 0, -1},
		{"nothing", machine(t, "a>0"), "aaa", 0, -1},
		{"nothing is no front", machine(t, "#0"), "a", 0, -1},
		{"nothing is no front of nothing", machine(t, "#0 a>0"), "", 0, -1},
		{"not even by a free way", machine(t, "~1", "#0"), "a", 0, -1},
		{"but behind one scalar", machine(t, "#4 a>0"), "ab", 1, 4},
		{"all of it", machine(t, "#4 a>0"), "aaaa", 4, 4},
		{"the front alone", machine(t, "a>1", "a>2 #0", "a>1"), "aaaa", 3, 0},
		{"over a gap", machine(t, "a>1", "b>2 #5", "c>3", "#2"), "abcd", 3, 2},
		{"back to what was ahead of the gap", machine(t, "a>1", "b>2 #2", "c>3", "#5"), "abd", 1, 2},
		{"the longer one, though its tag is greater", machine(t, "a>1", "b>2 #0", "#9"), "ab", 2, 9},
		{"the least of some", machine(t, "a>1 a>2 a>3", "#6", "#4", "#5"), "a", 1, 4},
		{"the least, by a free way", machine(t, "a>1", "#6 ~2", "#4"), "a", 1, 4},
		{"the least of the longest, not of all", machine(t, "a>1 ~3", "#0", "", "a>4", "a>5 #7", "#8"), "aa", 2, 8},
		{"what comes behind where it stood still", machine(t, "a>0 #1 ~1", "c>0"), "abaac", 1, 1},
		{"at once", machine(t, "a>0 #1"), "baaa", 0, -1},
		{"the empty set", machine(t, ">1 a>0", "#3"), "aaa", 0, -1},
	} {
		if k, tag := sim.Longest(c.n, scalars(c.s)); k != c.length || tag != c.tag {
			t.Errorf("%s: %d, %d, want %d, %d", c.what, k, tag, c.length, c.tag)
		}
	}
}

// TestLongestOfPatterns: what the document's own patterns tell.
func TestLongestOfPatterns(t *testing.T) {
	words := patterns(t, "if", "[a-z]+", "[0-9]+", "[0-9]+[.][0-9]+", "[ ]*")
	expectLongest(t, words, "if", 2, 0)
	expectLongest(t, words, "iff", 3, 1)
	expectLongest(t, words, "i f", 1, 1)
	expectLongest(t, words, "12.5", 4, 3)
	expectLongest(t, words, "12.x", 2, 2)
	expectLongest(t, words, "12.", 2, 2)
	expectLongest(t, words, "   a", 3, 4)
	expectLongest(t, words, "!", 0, -1)
	expectLongest(t, words, "", 0, -1)
	expectLongest(t, patterns(t, ".", "\\x{10ffff}+"), "\U0010ffff\U0010ffff\n", 2, 1)
	expectLongest(t, patterns(t, "()", "(a|b)*"), "c", 0, -1)
}

func TestLongTexts(t *testing.T) {
	n := patterns(t, "a+b", "a", "[a-z]{0,20}")
	many := strings.Repeat("a", api.MaxBytes-1)
	expectLongest(t, n, many+"b", api.MaxBytes, 0)
	expectLongest(t, n, many+"c", 20, 2)
	expectLongest(t, patterns(t, "(a*b*)*", "b"), strings.Repeat("ab", 30000)+"c", 60000, 0)
	// Where nothing is left the rest is not gone through.
	far := slices.Repeat([]int{'b'}, 1<<22)
	if k, tag := sim.Longest(n, far); k != 20 || tag != 2 {
		t.Errorf("of very many: %d, %d", k, tag)
	}
}

// unsound are machines each of which breaks one promise of those that may be.
func unsound() map[string]api.Nfa {
	sound := func() api.Nfa {
		return api.Nfa{Edges: [][]api.Edge{{{To: 1, Set: spans('a', 'a')}}, nil}, Free: [][]int{nil, {0}}, Tags: []int{-1, 0}}
	}
	out := map[string]api.Nfa{"no states": {}, "no states, but tags": {Tags: []int{1}}}
	for what, spoil := range map[string]func(n *api.Nfa){
		"more tags":        func(n *api.Nfa) { n.Tags = append(n.Tags, -1) },
		"fewer tags":       func(n *api.Nfa) { n.Tags = n.Tags[:1] },
		"more edges":       func(n *api.Nfa) { n.Edges = append(n.Edges, nil) },
		"fewer edges":      func(n *api.Nfa) { n.Edges = n.Edges[:1] },
		"more free ways":   func(n *api.Nfa) { n.Free = append(n.Free, nil) },
		"fewer free ways":  func(n *api.Nfa) { n.Free = n.Free[:1] },
		"an edge too far":  func(n *api.Nfa) { n.Edges[1] = []api.Edge{{To: 2, Set: spans('a', 'a')}} },
		"an edge below 0":  func(n *api.Nfa) { n.Edges[1] = []api.Edge{{To: -1, Set: spans('a', 'a')}} },
		"a way too far":    func(n *api.Nfa) { n.Free[1] = []int{0, 2} },
		"a way below 0":    func(n *api.Nfa) { n.Free[0] = []int{-1} },
		"a tag below -1":   func(n *api.Nfa) { n.Tags[0] = -2 },
		"a span of none":   func(n *api.Nfa) { n.Edges[0][0].Set = spans('b', 'a') },
		"touching spans":   func(n *api.Nfa) { n.Edges[0][0].Set = spans('a', 'b', 'c', 'd') },
		"falling spans":    func(n *api.Nfa) { n.Edges[0][0].Set = spans('x', 'y', 'a', 'b') },
		"a surrogate":      func(n *api.Nfa) { n.Edges[0][0].Set = spans('a', 0xd800) },
		"above 10ffff":     func(n *api.Nfa) { n.Edges[0][0].Set = spans('a', 'b', 0xe000, 0x110000) },
		"too many states":  func(n *api.Nfa) { *n = lone(2001) },
		"far too many":     func(n *api.Nfa) { *n = lone(100000) },
		"far wrong places": func(n *api.Nfa) { n.Free[0] = []int{math.MaxInt, math.MinInt} },
	} {
		n := sound()
		spoil(&n)
		out[what] = n
	}
	return out
}

// lone is a machine of so many states, at each of which it stays by a, with the tag 0.
func lone(states int) api.Nfa {
	n := api.Nfa{Free: make([][]int, states), Tags: make([]int, states)}
	for i := range states {
		n.Edges = append(n.Edges, []api.Edge{{To: i, Set: spans('a', 'a')}})
	}
	return n
}

// TestUnsound: of a machine that may not be there are no states and no tags.
func TestUnsound(t *testing.T) {
	for what, n := range unsound() {
		expectList(t, what+": Start", sim.Start(n))
		expectList(t, what+": Step", sim.Step(n, []int{0, 1}, 'a'))
		expectList(t, what+": Tags", sim.Tags(n, []int{0, 1}))
		for _, s := range []string{"", "a", "aa"} {
			expectLongest(t, n, s, 0, -1)
		}
	}
}

// TestMostStates: a machine may have 2000 states, each of which leads to each other one.
func TestMostStates(t *testing.T) {
	n := lone(2000)
	all := make([]int, 2000)
	for i := range all {
		all[i] = i
		n.Tags[i] = 1999 - i
	}
	expectList(t, "alone", sim.Start(n), 0)
	expectList(t, "by the last", sim.Step(n, []int{1999, 2000}, 'a'), 1999)
	expectList(t, "its tag", sim.Tags(n, []int{1999}), 0)
	expectList(t, "by all", sim.Step(n, all, 'a'), all...)
	expectList(t, "all tags", sim.Tags(n, all), all...)
	for i := range all {
		n.Free[i] = []int{(i + 1999) % 2000}
	}
	expectList(t, "one behind the other", sim.Start(n), all...)
	expectLongest(t, n, "aaa", 3, 0)
	for i := range all {
		n.Free[i] = all
	}
	expectList(t, "each to each", sim.Start(n), all...)
	expectList(t, "each to each, by one", sim.Step(n, []int{77}, 'a'), all...)
	expectLongest(t, n, strings.Repeat("a", 50)+"b", 50, 0)
	n.Free[0], n.Edges[0] = nil, nil
	expectList(t, "state 0 goes nowhere", sim.Step(n, []int{0}, 'a'))
}

// TestManyPlaces: a list may tell one state, and what is none, very often, and each state may have very many edges.
func TestManyPlaces(t *testing.T) {
	n := machine(t, "#0", "#1 ~0", "#2")
	edge := api.Edge{To: 1, Set: spans('a', 'a')}
	n.Edges[0] = slices.Repeat([]api.Edge{edge}, 100000)
	n.Edges[2] = slices.Repeat([]api.Edge{{To: 2, Set: spans('b', 'b')}}, 100000)
	at := slices.Repeat([]int{0, 2, -5, 3}, 1<<20)
	expectList(t, "Step", sim.Step(n, at, 'a'), 0, 1)
	expectList(t, "Tags", sim.Tags(n, at), 0, 2)
}
