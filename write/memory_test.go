package write_test

import (
	"slices"
	"strconv"
	"strings"
	"testing"

	"glyphcutter/api"
	"glyphcutter/rx"
	"glyphcutter/write"
)

// roomy is a copy of a node that shares no memory with it, and has others behind its lists' lengths in their memory.
func roomy(n api.Node) api.Node {
	n.Set = append(slices.Clone(n.Set), spans(3, 2, 5, 5)...)[:len(n.Set)]
	kids := slices.Clone(n.Kids)
	for i := range kids {
		kids[i] = roomy(kids[i])
	}
	n.Kids = append(kids, api.Node{Kind: 7}, a)[:len(kids)]
	return n
}

// sameRoom says whether two nodes of roomy are alike, with what lies behind their lists.
func sameRoom(x, y api.Node) bool {
	return x.Kind == y.Kind && x.Min == y.Min && x.Max == y.Max && len(x.Set) == len(y.Set) && len(x.Kids) == len(y.Kids) &&
		slices.Equal(x.Set[:len(x.Set)+2], y.Set[:len(y.Set)+2]) && slices.EqualFunc(x.Kids, y.Kids, sameRoom) &&
		slices.EqualFunc(x.Kids[:len(x.Kids)+2][len(x.Kids):], y.Kids[:len(y.Kids)+2][len(y.Kids):], same)
}

// TestNodesStay: R2: what is handed in is not changed, what lies behind a list's length is neither read nor written.
func TestNodesStay(t *testing.T) {
	for _, n := range []api.Node{
		empty, a, chars(), cat(a, b), or(chars(0, 4, 6, 9), empty), rep(1, 2, cat(or(a, b), rep(0, -1, c), empty)),
		cat(a), or(), rep(2, 1, a), chars(5, 9, 0, 4), cat(a, chars(9, 8)), rep(0, 1, cat(a, or(b))),
	} {
		x := roomy(n)
		kept := roomy(n)
		if write.Sound(x) != write.Sound(n) || write.Write(x) != write.Write(n) {
			t.Errorf("%v: what lies behind its lists is read", n)
		}
		if !sameRoom(x, kept) {
			t.Errorf("%v was changed", n)
		}
	}
}

// TestNothingIsKept: what was told of a node says nothing of what stands in its memory later.
func TestNothingIsKept(t *testing.T) {
	kids := []api.Node{chars('a', 'a'), b}
	n := cat(kids...)
	first := write.Write(n)
	kids[1] = api.Node{Kind: 9}
	if write.Sound(n) || write.Write(n) != "" {
		t.Error("a kid that became wrong is not seen")
	}
	kids[1] = or(b, c)
	if write.Write(n) != letters.Replace("a(b|c)") {
		t.Error("a kid that became another one is not seen")
	}
	kids[0].Set[0] = api.Span{Lo: 'a', Hi: 'z'}
	if write.Write(n) != `[\x{61}-\x{7a}]`+letters.Replace("(b|c)") || first != `[\x{61}-\x{61}]`+letters.Replace("b") {
		t.Error("a set that became another one is not seen, or an answer changed")
	}
}

// doubled is definitions, each of which names the one ahead as often as a pattern has room for, and the last one's node.
func doubled(t *testing.T, levels int, text string) api.Node {
	t.Helper()
	defs := []api.Def{{Name: "D0", Node: a}}
	for i := range levels {
		n, e, _ := rx.Parse(strings.ReplaceAll(text, "D", "D"+strconv.Itoa(i)), defs)
		if e != api.OK {
			t.Fatal(e)
		}
		defs = append(defs, api.Def{Name: "D" + strconv.Itoa(i+1), Node: n})
	}
	return defs[levels].Node
}

// TestSharedRows: a row of nodes may lie below so many others that nobody could look at it below each of them.
func TestSharedRows(t *testing.T) {
	for _, text := range []string{strings.Repeat("{D}", 40), strings.Repeat("|{D}", 30), "{D}{D}"} {
		if !write.Sound(doubled(t, 20, text)) {
			t.Errorf("%q: not Sound", text)
		}
		if n := doubled(t, 21, text); write.Sound(n) || write.Write(n) != "" {
			t.Errorf("%q, once more: Sound", text)
		}
	}
	if n := doubled(t, 7, strings.Repeat("({D}*|a)", 20)); write.Sound(n) || write.Write(n) != "" {
		t.Error("three levels at a time, and one too many: Sound")
	}
}

// TestRowAtTwoDepths: a row that is sound where it is met first may be too deep elsewhere, and the other way round.
func TestRowAtTwoDepths(t *testing.T) {
	deep := func(x api.Node) api.Node { return rep(0, 1, x) }
	shared := below(10, a, deep)
	for n := range 12 {
		want := n <= 9
		for _, x := range []api.Node{cat(shared, below(n, shared, deep)), cat(below(n, shared, deep), shared), or(shared, a, below(n, shared, deep), shared)} {
			if write.Sound(x) != want || (write.Write(x) != "") != want {
				t.Errorf("%d and 11 nodes above it: not %t", n, want)
			}
		}
	}
	// A front of a row is another row: it is sound, or deep, by itself.
	row := []api.Node{a, b, below(19, a, deep)}
	front, whole := api.Node{Kind: api.Cat, Kids: row[:2]}, api.Node{Kind: api.Cat, Kids: row}
	if !write.Sound(cat(front, front)) || write.Sound(cat(front, whole)) || write.Sound(cat(whole, front)) {
		t.Error("a row and its front are taken for one another")
	}
}

// TestNodesBelowThemselves: these have no end, and are not Sound (T8).
func TestNodesBelowThemselves(t *testing.T) {
	for _, kind := range []uint8{api.Cat, api.Or} {
		for _, place := range []int{0, 1, 2} {
			kids := []api.Node{a, b, c}
			kids[place] = api.Node{Kind: kind, Kids: kids}
			if n := kids[place]; write.Sound(n) || write.Write(n) != "" {
				t.Errorf("kind %d, place %d: Sound", kind, place)
			}
		}
		kids := make([]api.Node, 3)
		for i := range kids {
			kids[i] = api.Node{Kind: kind, Kids: kids}
		}
		if n := kids[0]; write.Sound(n) || write.Write(n) != "" {
			t.Errorf("kind %d, all of them: Sound", kind)
		}
	}
	kid := make([]api.Node, 1)
	kid[0] = api.Node{Kind: api.Rep, Max: -1, Kids: kid}
	if write.Sound(kid[0]) || write.Write(kid[0]) != "" {
		t.Error("Rep: Sound")
	}
}

// TestLongRows: there is no bound to how many kids and spans there are.
func TestLongRows(t *testing.T) {
	const n = 100000
	expectText(t, cat(slices.Repeat([]api.Node{a}, n)...), strings.Repeat(letters.Replace("a"), n))
	expectText(t, or(slices.Repeat([]api.Node{cat(a, b)}, n)...), strings.Repeat(letters.Replace("|ab"), n)[1:])
	var l []api.Span
	var want strings.Builder
	for r := 0x10000; r < 0x10000+2*n; r += 2 {
		l = append(l, api.Span{Lo: r, Hi: r})
		hex := strconv.FormatInt(int64(r), 16)
		want.WriteString(`\x{` + hex + `}-\x{` + hex + `}`)
	}
	expectText(t, api.Node{Kind: api.Chars, Set: l}, "["+want.String()+"]")
}
