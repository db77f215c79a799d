package nfa_test

import (
	"fmt"
	"slices"
	"strings"
	"testing"

	"glyphcutter/api"
	"glyphcutter/nfa"
	"glyphcutter/rx"
)

// spans takes Lo and Hi in turn.
func spans(n ...int) []api.Span {
	var out []api.Span
	for i := 0; i+1 < len(n); i += 2 {
		out = append(out, api.Span{Lo: n[i], Hi: n[i+1]})
	}
	return out
}

// chars takes Lo and Hi in turn.
func chars(n ...int) api.Node { return api.Node{Kind: api.Chars, Set: spans(n...)} }

func cat(kids ...api.Node) api.Node { return api.Node{Kind: api.Cat, Kids: kids} }

func or(kids ...api.Node) api.Node { return api.Node{Kind: api.Or, Kids: kids} }

func rep(least, most int, kid api.Node) api.Node {
	return api.Node{Kind: api.Rep, Kids: []api.Node{kid}, Min: least, Max: most}
}

func list(l ...api.Node) []api.Node { return l }

var (
	empty = api.Node{Kind: api.Empty}
	a     = chars('a', 'a')
	b     = chars('b', 'b')
	c     = chars('c', 'c')
)

// parse is the node of a pattern that is right.
func parse(t *testing.T, s string, defs ...api.Def) api.Node {
	t.Helper()
	n, e, at := rx.Parse(s, defs)
	if e != api.OK {
		t.Fatalf("%q: %d at %d", s, e, at)
	}
	return n
}

// shown is a machine as a text: of each state its number, its edges (a set's letters, and where to), its free ways and its tag.
func shown(n api.Nfa) string {
	var out []string
	for i := range n.Tags {
		s := fmt.Sprint(i, ":")
		for _, e := range n.Edges[i] {
			s += " " + letters(e.Set) + ">" + fmt.Sprint(e.To)
		}
		for _, to := range n.Free[i] {
			s += fmt.Sprint(" ~", to)
		}
		if n.Tags[i] != -1 {
			s += fmt.Sprint(" #", n.Tags[i])
		}
		out = append(out, strings.ReplaceAll(s, " :", ":"))
	}
	return strings.Join(out, ", ")
}

// letters is a set as a text.
func letters(l []api.Span) string {
	out := ""
	for _, s := range l {
		out += string(rune(s.Lo))
		if s.Hi != s.Lo {
			out += "-" + string(rune(s.Hi))
		}
	}
	return out
}

// expectMachine asks for the whole machine of some patterns. (These are not told: their texts may be far longer than they are.)
func expectMachine(t *testing.T, l []api.Node, want string) {
	t.Helper()
	n, e := nfa.Build(l)
	if e != api.OK || len(n.Edges) != len(n.Tags) || len(n.Free) != len(n.Tags) {
		t.Errorf("error %d, %d edges, %d free, %d tags, want %s", e, len(n.Edges), len(n.Free), len(n.Tags), want)
		return
	}
	if got := shown(n); got != want {
		t.Errorf("\n got %s\nwant %s", got, want)
	}
	if !nfa.Sound(n) {
		t.Errorf("not Sound: %s", want)
	}
}

// expectError asks for an error, and no machine beside it.
func expectError(t *testing.T, what string, l []api.Node, want api.Errno) {
	t.Helper()
	n, e := nfa.Build(l)
	if e != want {
		t.Errorf("%s: error %d, want %d", what, e, want)
	}
	if n.Edges != nil || n.Free != nil || n.Tags != nil {
		t.Errorf("%s: a machine beside the error %d", what, e)
	}
}

// expectStates asks for how many states a machine has; for ErrLong, if they are too many.
func expectStates(t *testing.T, what string, l []api.Node, want int) {
	t.Helper()
	if want > 2000 {
		expectError(t, what, l, api.ErrLong)
		return
	}
	n, e := nfa.Build(l)
	if e != api.OK || len(n.Tags) != want || !nfa.Sound(n) {
		t.Errorf("%s: error %d, %d states, want %d", what, e, len(n.Tags), want)
	}
}

func TestExample(t *testing.T) {
	expectMachine(t, list(parse(t, "a"), parse(t, "a*")), "0: ~1 ~3, 1: a>2, 2: #0, 3: ~4, 4: ~5 #1, 5: a>6, 6: ~4")
}

// TestLaid holds what is laid of each kind, state by state.
func TestLaid(t *testing.T) {
	for _, x := range []struct {
		n    api.Node
		want string
	}{
		{empty, "0: ~1, 1: #0"},
		{a, "0: ~1, 1: a>2, 2: #0"},
		{chars(), "0: ~1, 1: >2, 2: #0"},
		{chars('0', '9', 'a', 'f', 'x', 'x'), "0: ~1, 1: 0-9a-fx>2, 2: #0"},
		{cat(a, b), "0: ~1, 1: a>2, 2: b>3, 3: #0"},
		{cat(a, b, c), "0: ~1, 1: a>2, 2: b>3, 3: c>4, 4: #0"},
		{cat(empty, empty), "0: ~1, 1: #0"},
		{cat(empty, a, empty, empty, b, empty), "0: ~1, 1: a>2, 2: b>3, 3: #0"},
		{cat(cat(a, b), cat(c, a)), "0: ~1, 1: a>2, 2: b>3, 3: c>4, 4: a>5, 5: #0"},
		{or(a, b), "0: ~1, 1: ~3 ~5, 2: #0, 3: a>4, 4: ~2, 5: b>6, 6: ~2"},
		{or(a, empty, b), "0: ~1, 1: ~3 ~5 ~6, 2: #0, 3: a>4, 4: ~2, 5: ~2, 6: b>7, 7: ~2"},
		{or(empty, empty), "0: ~1, 1: ~3 ~4, 2: #0, 3: ~2, 4: ~2"},
		{or(or(a, b), c), "0: ~1, 1: ~3 ~9, 2: #0, 3: ~5 ~7, 4: ~2, 5: a>6, 6: ~4, 7: b>8, 8: ~4, 9: c>10, 10: ~2"},
		{cat(or(a, b), c), "0: ~1, 1: ~3 ~5, 2: c>7, 3: a>4, 4: ~2, 5: b>6, 6: ~2, 7: #0"},
		{or(cat(a, b), c), "0: ~1, 1: ~3 ~6, 2: #0, 3: a>4, 4: b>5, 5: ~2, 6: c>7, 7: ~2"},
		{rep(0, -1, a), "0: ~1, 1: ~2, 2: ~3 #0, 3: a>4, 4: ~2"},
		{rep(1, -1, a), "0: ~1, 1: ~2, 2: a>3, 3: ~4, 4: ~5 #0, 5: a>6, 6: ~4"},
		{rep(2, -1, a), "0: ~1, 1: ~2, 2: a>3, 3: ~4, 4: a>5, 5: ~6, 6: ~7 #0, 7: a>8, 8: ~6"},
		{rep(0, 0, a), "0: ~1, 1: ~2, 2: #0"},
		{rep(0, 1, a), "0: ~1, 1: ~2 ~3, 2: #0, 3: a>4, 4: ~2"},
		{rep(0, 2, a), "0: ~1, 1: ~2 ~3, 2: #0, 3: a>4, 4: ~2 ~5, 5: a>6, 6: ~2"},
		{rep(1, 1, a), "0: ~1, 1: ~2, 2: a>3, 3: ~4, 4: #0"},
		{rep(2, 2, a), "0: ~1, 1: ~2, 2: a>3, 3: ~4, 4: a>5, 5: ~6, 6: #0"},
		{rep(1, 3, a), "0: ~1, 1: ~2, 2: a>3, 3: ~4 ~5, 4: #0, 5: a>6, 6: ~4 ~7, 7: a>8, 8: ~4"},
		{rep(0, -1, empty), "0: ~1, 1: ~2, 2: ~3 #0, 3: ~2"},
		{rep(1, 2, empty), "0: ~1, 1: ~2, 2: ~3 ~4, 3: #0, 4: ~3"},
		{rep(0, -1, rep(0, -1, a)), "0: ~1, 1: ~2, 2: ~3 #0, 3: ~4, 4: ~5 ~2, 5: a>6, 6: ~4"},
		{rep(0, 1, or(a, b)), "0: ~1, 1: ~2 ~3, 2: #0, 3: ~5 ~7, 4: ~2, 5: a>6, 6: ~4, 7: b>8, 8: ~4"},
		{cat(rep(0, -1, a), b), "0: ~1, 1: ~2, 2: b>5 ~3, 3: a>4, 4: ~2, 5: #0"},
		{cat(rep(0, 0, a), b), "0: ~1, 1: ~2, 2: b>3, 3: #0"},
		{or(rep(0, -1, a), b), "0: ~1, 1: ~3 ~7, 2: #0, 3: ~4, 4: ~5 ~2, 5: a>6, 6: ~4, 7: b>8, 8: ~2"},
	} {
		expectMachine(t, list(x.n), x.want)
	}
}

// TestTags: each pattern is forked behind 0, in order, and its place is the tag where it ends.
func TestTags(t *testing.T) {
	expectMachine(t, list(empty, empty), "0: ~1 ~2, 1: #0, 2: #1")
	expectMachine(t, list(a, b, a), "0: ~1 ~3 ~5, 1: a>2, 2: #0, 3: b>4, 4: #1, 5: a>6, 6: #2")
	expectMachine(t, list(or(a, b), empty, rep(0, 1, c)), "0: ~1 ~7 ~8, 1: ~3 ~5, 2: #0, 3: a>4, 4: ~2, 5: b>6, 6: ~2, 7: #1, 8: ~9 ~10, 9: #2, 10: c>11, 11: ~9")
}

func TestHowManyPatterns(t *testing.T) {
	expectError(t, "no patterns", nil, api.ErrArg)
	expectError(t, "no patterns, and a list", []api.Node{}, api.ErrArg)
	for n := 1; n <= 30; n++ {
		got, e := nfa.Build(slices.Repeat(list(a), n))
		if e != api.OK || len(got.Tags) != 1+2*n || len(got.Free[0]) != n || got.Tags[2*n] != n-1 || !nfa.Sound(got) {
			t.Errorf("%d patterns: error %d, %s", n, e, shown(got))
		}
	}
	for _, n := range []int{31, 32, 60, 1000} {
		expectError(t, fmt.Sprint(n, " patterns"), slices.Repeat(list(a), n), api.ErrArg)
		expectError(t, fmt.Sprint(n, " patterns of nothing"), make([]api.Node, n), api.ErrArg)
	}
}

// TestUnsound: one pattern that is not Sound is wrong wherever it stands, and though the machine would be too long.
func TestUnsound(t *testing.T) {
	deep := a
	for range 21 {
		deep = rep(0, 0, deep)
	}
	long := rep(20, 20, rep(20, 20, rep(20, 20, a)))
	for what, n := range map[string]api.Node{
		"no kind": {Kind: 5}, "Empty with a set": {Set: spans('a', 'a')}, "Chars of no set": chars(5, 9, 0, 4), "Cat of one": cat(a), "Or of none": or(),
		"Rep of two": {Kind: api.Rep, Kids: list(a, b)}, "Rep of falling times": rep(3, 2, a), "Rep of 21": rep(0, 21, a), "too deep": deep,
		"a wrong one that is told no time": rep(0, 0, api.Node{Kind: 9}), "a wrong one below": cat(a, or(b, rep(0, -1, chars(9, 8)))),
	} {
		expectError(t, what, list(n), api.ErrArg)
		expectError(t, what+", at first", list(n, a), api.ErrArg)
		expectError(t, what+", at last", list(a, b, n), api.ErrArg)
		expectError(t, what+", in the midst", list(a, n, b), api.ErrArg)
		expectError(t, what+", ahead of a long one", list(n, long), api.ErrArg)
		expectError(t, what+", behind a long one", list(long, n), api.ErrArg)
	}
	expectError(t, "31, and long", slices.Repeat(list(long), 31), api.ErrArg)
	expectError(t, "long", list(long), api.ErrLong)
}

// TestHowManyStates: a machine may have 2000 states, of whatever they are laid, and no more.
func TestHowManyStates(t *testing.T) {
	for _, n := range []int{4, 100, 1996, 1997, 1998, 1999, 2000, 5000, 100000} {
		letters := slices.Repeat(list(a), n)
		expectStates(t, fmt.Sprint("Cat of ", n), list(cat(letters...)), 2+n)
		expectStates(t, fmt.Sprint("Cat of Cats, ", n), list(cat(cat(letters[:n/2]...), cat(letters[n/2:]...), b, empty)), 2+n+1)
		expectStates(t, fmt.Sprint("Or of ", n), list(or(letters...)), 3+2*n)
		expectStates(t, fmt.Sprint("two, one of ", n), list(b, cat(letters...)), 4+n)
		expectStates(t, fmt.Sprint("two, one of ", n), list(cat(letters...), b), 4+n)
		expectStates(t, fmt.Sprint("Or of nothing, ", n), list(or(make([]api.Node, n)...)), 3+n)
		expectStates(t, fmt.Sprint("Cat of nothing, ", n), list(cat(make([]api.Node, n)...)), 2)
		expectStates(t, fmt.Sprint("Rep 0 to 0 of ", n), list(rep(0, 0, cat(letters...))), 3)
		expectStates(t, fmt.Sprint("Rep 0 to -1 of ", n), list(rep(0, -1, cat(letters...))), 3+1+n)
		expectStates(t, fmt.Sprint("Rep 1 to 1 of ", n), list(rep(1, 1, cat(letters...))), 3+1+n)
		expectStates(t, fmt.Sprint("Rep 0 to 1 of ", n), list(rep(0, 1, cat(letters...))), 3+1+n)
	}
	for n := 40; n < 1100; n += 7 {
		of := cat(slices.Repeat(list(a), n)...)
		for _, times := range [][3]int{{1, -1, 2}, {0, 2, 2}, {1, 2, 2}, {2, 2, 2}, {2, -1, 3}, {1, 7, 7}, {20, -1, 21}, {20, 20, 20}, {0, 20, 20}, {19, 20, 20}} {
			expectStates(t, fmt.Sprint("Rep ", times[:2], " of ", n), list(rep(times[0], times[1], of)), 3+times[2]*(1+n))
		}
	}
}

// TestAtTheLimit holds each kind at just 2000 states, and one above.
func TestAtTheLimit(t *testing.T) {
	for what, l := range map[string][]api.Node{
		"Cat":          list(cat(slices.Repeat(list(a), 1998)...)),
		"Or":           list(or(append(slices.Repeat(list(a), 998), empty)...)),
		"Or in Cat":    list(cat(or(slices.Repeat(list(a), 998)...), b)),
		"Rep, any":     list(rep(0, -1, cat(slices.Repeat(list(a), 1996)...))),
		"Rep, to 20":   list(cat(rep(0, 20, cat(slices.Repeat(list(a), 98)...)), cat(slices.Repeat(list(b), 17)...))),
		"Rep, 20":      list(cat(rep(20, 20, cat(slices.Repeat(list(a), 98)...)), cat(slices.Repeat(list(b), 17)...))),
		"Rep, 20 on":   list(cat(rep(20, -1, cat(slices.Repeat(list(a), 94)...)), b, c)),
		"Rep in Rep":   list(cat(rep(20, 20, rep(20, 20, cat(a, b, c))), cat(slices.Repeat(list(b), 357)...))),
		"30 patterns":  append(slices.Repeat(list(cat(slices.Repeat(list(a), 65)...)), 29), cat(slices.Repeat(list(a), 84)...)),
		"of no length": list(rep(0, -1, or(make([]api.Node, 1995)...))),
	} {
		expectStates(t, what, l, 2000)
		for place := range l {
			longer := slices.Clone(l)
			longer[place] = cat(l[place], c)
			expectStates(t, what+", and one", longer, 2001)
			longer[place] = cat(l[place], empty)
			expectStates(t, what+", and nothing", longer, 2000)
		}
	}
}

// TestNoLists: a list that is nil and one that is empty are the same thing (R6).
func TestNoLists(t *testing.T) {
	none := func(kind uint8) api.Node { return api.Node{Kind: kind, Set: []api.Span{}, Kids: []api.Node{}} }
	expectMachine(t, list(none(api.Empty)), "0: ~1, 1: #0")
	expectMachine(t, list(none(api.Chars)), "0: ~1, 1: >2, 2: #0")
	expectMachine(t, list(cat(none(api.Chars), none(api.Empty))), "0: ~1, 1: >2, 2: #0")
	expectError(t, "Cat of none", list(none(api.Cat)), api.ErrArg)
}
