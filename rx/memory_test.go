package rx_test

import (
	"runtime/debug"
	"slices"
	"strings"
	"testing"

	"glyphcutter/api"
	"glyphcutter/rx"
)

// whole is a node that shares no memory with n.
func whole(n api.Node) api.Node {
	n.Set, n.Kids = slices.Clone(n.Set), slices.Clone(n.Kids)
	for i := range n.Kids {
		n.Kids[i] = whole(n.Kids[i])
	}
	return n
}

// wholeDefs are definitions that share no memory with l.
func wholeDefs(l []api.Def) []api.Def {
	out := slices.Clone(l)
	for i := range out {
		out[i].Node = whole(out[i].Node)
	}
	return out
}

func sameDefs(x, y []api.Def) bool {
	return slices.EqualFunc(x, y, func(d, e api.Def) bool { return d.Name == e.Name && same(d.Node, e.Node) })
}

// scribble writes over all memory of a node's lists, up to their capacities.
func scribble(n api.Node) {
	for _, k := range n.Kids {
		scribble(k)
	}
	l, kids := n.Set[:cap(n.Set)], n.Kids[:cap(n.Kids)]
	for i := range l {
		l[i] = api.Span{Lo: -77, Hi: -77}
	}
	for i := range kids {
		kids[i] = api.Node{Kind: 77}
	}
}

// TestDefinitionsStay: R2: what is handed in is not changed, whatever is made of it, and wherever it is wrong.
func TestDefinitionsStay(t *testing.T) {
	for _, s := range []string{"{Num}", "(?i:{Num})", "(?i:{Num}{D}|{x1Y2}*){Num}*", "{Num}{X}", "(?i:{Num}{D}", "{D}{2}{21}", "[{D}]", "(?i:{d}+|({d}))"} {
		defs := definitions()
		kept := wholeDefs(defs)
		rx.Parse(s, defs)
		if !sameDefs(defs, kept) {
			t.Errorf("Parse of %q changed the definitions", s)
		}
	}
}

// TestClosedDefinitionsAreNew: what is closed is a copy: who writes into it changes neither the definition nor what else came of it.
func TestClosedDefinitionsAreNew(t *testing.T) {
	defs := definitions()
	kept := wholeDefs(defs)
	first, _, _ := rx.Parse("(?i:{Num}{x1Y2}{d}{D})", defs)
	second, _, _ := rx.Parse("(?i:{Num}{x1Y2}{d}{D})", defs)
	twice, _, _ := rx.Parse("(?i:{Num}{Num})", defs)
	want := whole(second)
	num := whole(twice.Kids[1])
	scribble(first)
	scribble(twice.Kids[0])
	if !sameDefs(defs, kept) {
		t.Error("the definitions were changed")
	}
	if !same(second, want) || !same(twice.Kids[1], num) {
		t.Error("closed definitions share memory")
	}
}

// TestBehindTheDefinitions: what lies behind the list's length is not read; nor is what lies behind a definition's own lists handed out.
func TestBehindTheDefinitions(t *testing.T) {
	defs := definitions()
	expectFault(t, "{Num}", defs[:8], api.ErrName, 0)
	expectNode(t, "{D}", defs[:1], chars('0', '9'))
	l := spans('0', '9', 'x', 'x')
	kids := []api.Node{a, b, c}
	roomy := []api.Def{{Name: "L", Node: of(l[:1])}, {Name: "K", Node: cat(kids[:2]...)}}
	for _, s := range []string{"{L}", "{K}", "(?i:{L})", "(?i:{K})"} {
		n, e, _ := rx.Parse(s, roomy)
		if e != api.OK || slices.Contains(n.Set[:cap(n.Set)], l[1]) {
			t.Errorf("Parse of %q hands out what lies behind a set", s)
		}
		for _, k := range n.Kids[:cap(n.Kids)][len(n.Kids):] {
			if !same(k, api.Node{}) {
				t.Errorf("Parse of %q hands out what lies behind a node's kids", s)
			}
		}
	}
	n, _, _ := rx.Parse("{L}|{K}", roomy)
	for _, k := range n.Kids {
		_, _ = append(k.Set, api.Span{}), append(k.Kids, api.Node{})
	}
	if l[1] != (api.Span{Lo: 'x', Hi: 'x'}) || !same(kids[2], c) {
		t.Error("what lies behind a list can be written by an answer")
	}
}

// TestAnswersAreNew: R2: who writes into an answer, up to its capacities, changes no other one, and none that comes later.
func TestAnswersAreNew(t *testing.T) {
	for _, s := range []string{"a", ".", "[a-c]", "[^a-c]", `\p{han}`, `[\p{han}]`, `\x{61}`, "ab", "a|b", "a*", "(a|[b-c]*)+.|()", "(?i:k)", "(?i:[k-l]|.*)", "aaaaa|aaaaa|bbb"} {
		first, _, _ := rx.Parse(s, nil)
		second, _, _ := rx.Parse(s, nil)
		want := whole(second)
		scribble(first)
		third, _, _ := rx.Parse(s, nil)
		if !same(second, want) || !same(third, want) {
			t.Errorf("Parse of %q: answers share memory", s)
		}
	}
}

// TestPartsAreApart: no two lists of one answer share memory, be they of the same sets or of rows that grew.
func TestPartsAreApart(t *testing.T) {
	for _, s := range []string{"aa", "..", ".|.", `\p{han}\p{han}`, "[a-c][a-c]", "(ab)(ab)", "a*a*", "(a|b|c)(a|b|c)(a|b|c)", "(?i:kk)", "(?i:.).", "(abc|abc)(abc|abc)"} {
		n, e, _ := rx.Parse(s, nil)
		if e != api.OK || len(n.Kids) < 2 {
			t.Fatalf("Parse of %q: %s, %d", s, text(n), e)
		}
		want := whole(n)
		scribble(n.Kids[0])
		for i := 1; i < len(n.Kids); i++ {
			if !same(n.Kids[i], want.Kids[i]) {
				t.Errorf("Parse of %q: %s shares memory with what was written over", s, text(n.Kids[i]))
			}
		}
	}
}

// TestDefinitionsOfDefinitions: each has the one ahead of it many times; what they tell is far more than what they are.
func TestDefinitionsOfDefinitions(t *testing.T) {
	defs := []api.Def{{Name: "A", Node: cat(a, b)}}
	for i := range byte(19) {
		n, e, _ := rx.Parse(strings.Repeat("{"+string(rune('A'+i))+"}", 66), defs)
		if e != api.OK || len(n.Kids) != 66 {
			t.Fatalf("the definition behind %c: %d", 'A'+i, e)
		}
		defs = append(defs, api.Def{Name: string(rune('B' + i)), Node: n})
	}
	n, e, _ := rx.Parse("(?i:{T})|{T}", defs)
	if e != api.OK {
		t.Fatalf("error %d", e)
	}
	closed, open := n.Kids[0], n.Kids[1]
	for range 19 {
		closed, open = closed.Kids[65], open.Kids[0]
	}
	if !same(closed, cat(chars('A', 'A', 'a', 'a'), chars('B', 'B', 'b', 'b'))) || !same(open, cat(a, b)) {
		t.Errorf("%s, %s", text(closed), text(open))
	}
}

// TestDeepDefinitions: a definition may be deeper than a stack, or lie within itself; each call ends.
func TestDeepDefinitions(t *testing.T) {
	defer debug.SetMaxStack(debug.SetMaxStack(1 << 25))
	const n = 300000
	deep := one('k')
	for range n {
		deep = rep(0, -1, deep)
	}
	round := cat(a, empty)
	round.Kids[1] = round
	defs := []api.Def{{Name: "Deep", Node: deep}, {Name: "Round", Node: round}}
	got, e, _ := rx.Parse("(?i:{Deep})", defs)
	for range n {
		if e != api.OK || got.Kind != api.Rep || got.Min != 0 || got.Max != -1 || len(got.Kids) != 1 {
			t.Fatal("a deep definition is not what it was")
		}
		got = got.Kids[0]
	}
	if !same(got, chars('K', 'K', 'k', 'k', 0x212a, 0x212a)) {
		t.Errorf("at the end of a deep definition: %s", text(got))
	}
	got, e, _ = rx.Parse("(?i:{Round}){Deep}", defs)
	if e != api.OK || !same(got.Kids[0].Kids[1].Kids[1].Kids[0], chars('A', 'A', 'a', 'a')) {
		t.Errorf("a definition within itself: %d", e)
	}
}

// TestManyDefinitions: there may be more of them than a file may have; the first of a name is the one.
func TestManyDefinitions(t *testing.T) {
	var defs []api.Def
	for i := range 5000 {
		defs = append(defs, api.Def{Name: strings.Repeat("x", 1+i%150), Node: one(i)})
	}
	expectNode(t, "{"+strings.Repeat("x", 150)+"}", defs, one(149))
	expectNode(t, "{x}{xx}", defs, cat(one(0), one(1)))
	expectFault(t, "{"+strings.Repeat("x", 151)+"}", defs, api.ErrName, 0)
}
