package nfa_test

import (
	"slices"
	"strconv"
	"strings"
	"testing"

	"glyphcutter/api"
	"glyphcutter/nfa"
)

// roomy is a copy of a node that shares no memory with it, and has others behind its lists' lengths in their memory.
func roomy(n api.Node) api.Node {
	n.Set = append(slices.Clone(n.Set), spans(3, 2, 5, 5)...)[:len(n.Set)]
	kids := slices.Clone(n.Kids)
	for i := range kids {
		kids[i] = roomy(kids[i])
	}
	n.Kids = append(kids, api.Node{Kind: 7}, a)[:len(kids)]
	return n
}

// sameRoom says whether two nodes of roomy are alike, with what lies behind their lists.
func sameRoom(x, y api.Node) bool {
	return x.Kind == y.Kind && x.Min == y.Min && x.Max == y.Max && len(x.Set) == len(y.Set) && len(x.Kids) == len(y.Kids) &&
		slices.Equal(x.Set[:len(x.Set)+2], y.Set[:len(y.Set)+2]) && slices.EqualFunc(x.Kids, y.Kids, sameRoom) &&
		x.Kids[:len(x.Kids)+1][len(x.Kids)].Kind == 7 && y.Kids[:len(y.Kids)+1][len(y.Kids)].Kind == 7
}

// TestPatternsStay: R2: what is handed in is not changed, what lies behind a list's length is neither read nor written.
func TestPatternsStay(t *testing.T) {
	for _, l := range [][]api.Node{
		{empty, a, chars()}, {cat(a, b), or(chars(0, 4, 6, 9), empty)}, {rep(1, 2, cat(or(a, b), rep(0, -1, c), empty))},
		{cat(a)}, {or(), a}, {rep(0, 1, cat(a, or(b)))}, {rep(20, 20, rep(20, 20, rep(20, 20, a)))},
	} {
		var mine, kept []api.Node
		for _, n := range l {
			mine, kept = append(mine, roomy(n)), append(kept, roomy(n))
		}
		mine = append(mine, api.Node{Kind: 9})[:len(l)]
		want, e := nfa.Build(l)
		got, f := nfa.Build(mine)
		if e != f || !sameMachine(got, want) {
			t.Errorf("%v: what lies behind its lists is read", l)
		}
		if !slices.EqualFunc(mine, kept, sameRoom) || mine[:len(l)+1][len(l)].Kind != 9 {
			t.Errorf("%v was changed", l)
		}
	}
}

// TestNewMemory: R2: what comes out shares no memory with what was handed in, nor with what comes out of another call.
func TestNewMemory(t *testing.T) {
	l := list(or(a, b), rep(2, -1, chars('a', 'b', 'x', 'y')))
	first, _ := nfa.Build(l)
	second, _ := nfa.Build(l)
	want := shown(first)
	for i := range second.Tags {
		second.Tags[i] += 7
		for j := range second.Free[i] {
			second.Free[i][j]++
		}
		for _, e := range second.Edges[i] {
			clear(e.Set)
		}
		clear(second.Edges[i])
	}
	if shown(first) != want {
		t.Error("two answers share memory")
	}
	third, _ := nfa.Build(l)
	if shown(third) != want {
		t.Error("an answer is kept, or shares memory with what was handed in")
	}
	l[1].Kids[0].Set[0] = api.Span{Lo: 'A', Hi: 'Z'}
	l[0].Kids[1] = empty
	if shown(first) != want {
		t.Error("an answer shares memory with what was handed in")
	}
	fourth, _ := nfa.Build(l)
	if s := shown(fourth); s == want || !strings.Contains(s, "A-Zx-y>") || strings.Contains(s, " b>") {
		t.Error("what was handed in is kept")
	}
}

// TestListsApart: no two lists of an answer share memory, not even behind their lengths.
func TestListsApart(t *testing.T) {
	d := api.Def{Name: "D", Node: parse(t, "[ac]")}
	n, _ := nfa.Build(list(parse(t, "{D}{D}|({D}|b){2,4}|a*", d), d.Node, d.Node))
	want := shown(n)
	for i := range n.Tags {
		for _, e := range n.Edges[i] {
			l := append(e.Set, spans('p', 'q', 'r', 's', 't', 'u')...)
			clear(l[len(e.Set):])
		}
		clear(append(n.Edges[i], make([]api.Edge, 4)...)[len(n.Edges[i]):])
		clear(append(n.Free[i], 1, 2, 3, 4)[len(n.Free[i]):])
	}
	if shown(n) != want {
		t.Error("lists share memory behind their lengths")
	}
	for i := range n.Tags {
		for j := range n.Edges[i] {
			one, _ := nfa.Build(list(parse(t, "{D}{D}|({D}|b){2,4}|a*", d), d.Node, d.Node))
			one.Edges[i][j].Set[0] = api.Span{Lo: '!', Hi: '!'}
			if strings.Count(shown(one), "!") != 1 {
				t.Errorf("the set of an edge of %d is another edge's, too", i)
			}
		}
	}
}

// TestNothingBehind: what lies behind the lists' lengths of an answer is nothing of what was handed in.
func TestNothingBehind(t *testing.T) {
	l := list(cat(chars('a', 'b', 'x', 'y'), rep(0, 3, b)))
	l[0].Kids[0].Set = l[0].Kids[0].Set[:1]
	n, _ := nfa.Build(l)
	for i := range n.Tags {
		for _, e := range n.Edges[i] {
			for _, s := range e.Set[len(e.Set):cap(e.Set)] {
				if s != (api.Span{}) {
					t.Errorf("behind the set of an edge of %d lies %v", i, s)
				}
			}
		}
	}
}

// doubled is definitions, each of which names the one ahead as often as a pattern has room for, and the last one's node.
func doubled(t *testing.T, levels int, first api.Node, text string) api.Node {
	t.Helper()
	defs := []api.Def{{Name: "D0", Node: first}}
	for i := range levels {
		n := parse(t, strings.ReplaceAll(text, "D", "D"+strconv.Itoa(i)), defs...)
		defs = append(defs, api.Def{Name: "D" + strconv.Itoa(i+1), Node: n})
	}
	return defs[levels].Node
}

// TestSharedRows: a row may lie below so many nodes that nobody could lay it below each, or look at it there: each call ends.
func TestSharedRows(t *testing.T) {
	forty := strings.Repeat("{D}", 40)
	nothing := doubled(t, 20, empty, forty)
	expectMachine(t, list(nothing, nothing), "0: ~1 ~2, 1: #0, 2: #1")
	nothing = doubled(t, 17, empty, forty)
	expectMachine(t, list(cat(nothing, a, nothing, b)), "0: ~1, 1: a>2, 2: b>3, 3: #0")
	expectMachine(t, list(or(nothing, cat(a, nothing))), "0: ~1, 1: ~3 ~4, 2: #0, 3: ~2, 4: a>5, 5: ~2")
	expectMachine(t, list(rep(0, -1, rep(1, 1, nothing))), "0: ~1, 1: ~2, 2: ~3 #0, 3: ~4, 4: ~5, 5: ~2")
	pair := cat(empty, cat(empty, empty))
	for _, x := range []struct {
		levels int
		text   string
	}{{16, forty}, {16, "{D}{D}"}, {16, strings.Repeat("|{D}", 30)}, {8, "({D}{D}){20}"}, {8, "({D}|a){20}"}, {16, "{D}{20,}"}} {
		long := doubled(t, x.levels, cat(a, pair), x.text)
		expectError(t, x.text, list(long), api.ErrLong)
		expectError(t, x.text+", behind another", list(b, long), api.ErrLong)
		expectMachine(t, list(rep(0, 0, long), b), "0: ~1 ~3, 1: ~2, 2: #0, 3: b>4, 4: #1")
	}
}

// TestSharedLetters: a row with something in it, below very many nodes of nothing, is laid as often as it stands there.
func TestSharedLetters(t *testing.T) {
	for levels := range 12 {
		n := doubled(t, levels, cat(empty, a, empty), "(){D}(){D}()")
		expectStates(t, "doubled", list(n), 2+1<<levels)
	}
	row := append(make([]api.Node, 1<<20), a)
	n := rep(20, 20, rep(20, 20, api.Node{Kind: api.Cat, Kids: row}))
	expectStates(t, "very many of nothing", list(n), 3+20*(2+20*2))
}

// TestFrontOfRow: a front of a row is another row, with another need.
func TestFrontOfRow(t *testing.T) {
	row := list(empty, empty, a, b)
	front := func(n int) api.Node { return api.Node{Kind: api.Cat, Kids: row[:n]} }
	expectMachine(t, list(front(2), front(3), front(4), front(2)), "0: ~1 ~2 ~4 ~7, 1: #0, 2: a>3, 3: #1, 4: a>5, 5: b>6, 6: #2, 7: #3")
	expectMachine(t, list(front(4), front(2)), "0: ~1 ~4, 1: a>2, 2: b>3, 3: #0, 4: #1")
	// The list of patterns itself may be the row of one of them.
	own := list(empty, a, empty)
	own[2] = api.Node{Kind: api.Or, Kids: own[:2]}
	expectMachine(t, own, "0: ~1 ~2 ~4, 1: #0, 2: a>3, 3: #1, 4: ~6 ~7, 5: #2, 6: ~5, 7: a>8, 8: ~5")
}

// TestLargeSets: of a machine that is too long nothing is made, however large its sets would be.
func TestLargeSets(t *testing.T) {
	var l []api.Span
	for r := 0x10000; r < 0x110000; r += 2 {
		l = append(l, api.Span{Lo: r, Hi: r})
	}
	large := api.Node{Kind: api.Chars, Set: l}
	expectError(t, "a large set, too often", list(rep(20, 20, rep(20, 20, rep(20, 20, large)))), api.ErrLong)
	n, e := nfa.Build(list(large, rep(0, 2, large)))
	if e != api.OK || !nfa.Sound(n) || !slices.Equal(n.Edges[1][0].Set, l) || len(n.Tags) != 9 {
		t.Error("a large set")
	}
}
