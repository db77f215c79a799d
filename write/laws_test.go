package write_test

import (
	"fmt"
	"slices"
	"strings"
	"testing"

	"glyphcutter/api"
	"glyphcutter/rx"
	"glyphcutter/set"
	"glyphcutter/write"
)

// isSound is the chapter's words, level by level: each level's nodes are right by themselves, and there are no more than 21 levels.
func isSound(n api.Node) bool {
	level := []api.Node{n}
	for range 21 {
		var next []api.Node
		for _, x := range level {
			if !rightAlone(x) {
				return false
			}
			next = append(next, x.Kids...)
		}
		level = next
	}
	return len(level) == 0
}

// rightAlone says so of a node without its kids.
func rightAlone(n api.Node) bool {
	bare := api.Node{Kind: n.Kind}
	switch n.Kind {
	case 0:
	case 1:
		bare.Set = set.Norm(n.Set)
	case 2, 3:
		if len(n.Kids) < 2 {
			return false
		}
		bare.Kids = n.Kids
	case 4:
		if len(n.Kids) != 1 || n.Min < 0 || n.Min > 20 || n.Max != -1 && (n.Max < n.Min || n.Max > 20) {
			return false
		}
		bare.Kids, bare.Min, bare.Max = n.Kids, n.Min, n.Max
	default:
		return false
	}
	return n.Min == bare.Min && n.Max == bare.Max && slices.Equal(n.Set, bare.Set) && len(n.Kids) == len(bare.Kids)
}

// written is the chapter's words for the text of a node that is sound: each kid's text, in brackets or not, put together.
func written(n api.Node) string {
	var parts []string
	for _, k := range n.Kids {
		s := written(k)
		within := map[uint8][]uint8{2: {2, 3}, 3: {3}, 4: {2, 3, 4}}[n.Kind]
		if slices.Contains(within, k.Kind) {
			s = "(" + s + ")"
		}
		parts = append(parts, s)
	}
	switch n.Kind {
	case 0:
		return "()"
	case 1:
		for _, x := range n.Set {
			parts = append(parts, fmt.Sprintf(`\x{%x}-\x{%x}`, x.Lo, x.Hi))
		}
		if len(parts) == 0 {
			return `[^\x{0}-\x{10ffff}]`
		}
		return "[" + strings.Join(parts, "") + "]"
	case 2:
		return strings.Join(parts, "")
	case 3:
		return strings.Join(parts, "|")
	}
	times := fmt.Sprintf("{%d,%d}", n.Min, n.Max)
	return parts[0] + strings.ReplaceAll(times, "-1", "")
}

// expectLaws holds both calls of any node against the words, and what is written against what is read of it. It says whether the node is sound.
func expectLaws(t *testing.T, n api.Node) bool {
	t.Helper()
	want := isSound(n)
	if write.Sound(n) != want {
		t.Fatalf("Sound of %v: not %t", n, want)
	}
	s := write.Write(n)
	if !want {
		if s != "" {
			t.Fatalf("Write of %v: %q", n, s)
		}
		return false
	}
	if s != written(n) {
		t.Fatalf("Write of %v: %q, want %q", n, s, written(n))
	}
	if len(s) > api.MaxText {
		return true
	}
	back, e, at := rx.Parse(s, nil)
	if e != api.OK || !same(back, n) {
		t.Fatalf("%v is written as %q: that is %v, %d, %d", n, s, back, e, at)
	}
	return true
}

// TestAllShapes holds nodes of all kinds with all that may be in them, right or wrong, against the words.
func TestAllShapes(t *testing.T) {
	kids := [][]api.Node{nil, {}, {a}, {empty}, {chars(9, 8)}, {a, b}, {or(a, b), cat(a, b)}, {rep(0, -1, a), a, empty}, {rep(0, 0, a)}, {cat(a), b}, {a, {Kind: 5}}, {a, rep(2, 1, b)}}
	sets := [][]api.Span{nil, {}, spans('a', 'a'), spans(0, 4, 6, 9), spans(0, 4, 5, 9), spans(2, 1), spans(0, 0x10ffff), spans(0, 0xd7ff, 0xe000, 0x10ffff), spans(-1, 0)}
	times := []int{-21, -2, -1, 0, 1, 2, 19, 20, 21, 1 << 40}
	sound := 0
	for _, kind := range []uint8{0, 1, 2, 3, 4, 5, 6, 255} {
		for _, k := range kids {
			for _, l := range sets {
				for _, least := range times {
					for _, most := range times {
						if expectLaws(t, api.Node{Kind: kind, Set: l, Kids: k, Min: least, Max: most}) {
							sound++
						}
					}
				}
			}
		}
	}
	// Empty of 2 kids and 2 sets that are none; Chars of 2 and 5 sets; Cat and Or of 3 rows; Rep of 3 rows of one kid, and 20 pairs of times.
	if want := 2*2 + 2*5 + 2*3*2 + 3*2*20; sound != want {
		t.Errorf("%d nodes were sound, want %d", sound, want)
	}
}

// TestAllSmall holds all trees of some levels over a few leaves against the words.
func TestAllSmall(t *testing.T) {
	row := []api.Node{empty, a, chars()}
	for _, most := range []int{3, 12} {
		leaves := row[:min(len(row), most)]
		var next []api.Node
		for _, x := range leaves {
			next = append(next, rep(0, -1, x), rep(2, 3, x), cat(x), or(x))
			for _, y := range leaves {
				next = append(next, cat(x, y), or(x, y))
				for _, z := range leaves[:min(3, len(leaves))] {
					next = append(next, cat(x, y, z), or(z, x, y))
				}
			}
		}
		for _, x := range next {
			expectLaws(t, x)
		}
		// Of each kind some go on to the next level.
		row = append([]api.Node{empty, a}, next[:10]...)
	}
}

// picker draws numbers in one order that is the same each time.
type picker uint32

func (p *picker) below(n int) int {
	*p = *p*1664525 + 1013904223
	return int(*p>>8) % n
}

func (p *picker) of(l ...string) string { return l[p.below(len(l))] }

// node is any node, of no more than some levels, that is right but for a fault here and there.
func (p *picker) node(levels, faults int) api.Node {
	var n api.Node
	kind := p.below(5)
	if levels == 0 {
		kind = p.below(2)
	}
	switch n.Kind = uint8(kind); kind {
	case 1:
		for range p.below(4) {
			lo := p.below(0x3000) * p.below(400)
			n.Set = append(n.Set, api.Span{Lo: lo, Hi: lo + p.below(1000)})
		}
		n.Set = set.Norm(n.Set)
	case 2, 3:
		for range 2 + p.below(4)/2 {
			n.Kids = append(n.Kids, p.node(levels-1, faults))
		}
	case 4:
		n.Kids = []api.Node{p.node(levels-1, faults)}
		n.Min = p.below(21)
		n.Max = n.Min + p.below(22-n.Min)
		if n.Max == 21 {
			n.Max = -1
		}
	}
	if faults > 0 && p.below(faults) == 0 {
		p.spoil(&n)
	}
	return n
}

// spoil changes something of a node, most often so that it is wrong.
func (p *picker) spoil(n *api.Node) {
	switch p.below(6) {
	case 0:
		n.Kind = uint8(p.below(256))
	case 1:
		n.Min += p.below(3) - 1
	case 2:
		n.Max += p.below(3) - 1
	case 3:
		n.Set = append(n.Set, api.Span{Lo: p.below(0xf000), Hi: p.below(0xf000)})
	case 4:
		n.Kids = append(n.Kids, api.Node{})
	case 5:
		n.Kids = n.Kids[:len(n.Kids)/2]
	}
}

func TestManyNodes(t *testing.T) {
	p := picker(1)
	sound := 0
	for range 30000 {
		if !expectLaws(t, p.node(p.below(6), 0)) {
			t.Fatal("a node that is right is not Sound")
		}
		if expectLaws(t, p.node(p.below(8), 5+p.below(40))) {
			sound++
		}
	}
	if sound < 3000 || sound > 27000 {
		t.Errorf("%d of 30000 nodes were sound", sound)
	}
}

// alt is the text of a pattern, right or wrong.
func (p *picker) alt(deep int) string {
	out := ""
	for range p.below(6) {
		out += p.of("a", "b", "", "|", ".", `\p{greek}`, "[a-z0]", "[]", "[^a]", `\n`, "{D}", "\u20ac")
		if deep > 0 && p.below(3) == 0 {
			out += p.of("(", "(", "(?i:") + p.alt(deep-1) + ")"
		}
		out += p.of("", "", "*", "+", "?", "{2}", "{3,}", "{03,20}")
	}
	return out
}

// TestReadWrittenRead: what is parsed, written and parsed again, is the same.
func TestReadWrittenRead(t *testing.T) {
	defs := []api.Def{{Name: "D", Node: or(chars('0', '9'), cat(a, rep(1, -1, b)))}}
	p := picker(3)
	right := 0
	for range 60000 {
		s := p.alt(p.below(5))
		n, e, _ := rx.Parse(s, defs)
		if e != api.OK {
			continue
		}
		if !expectLaws(t, n) {
			t.Fatalf("%q is not Sound", s)
		}
		right++
	}
	if right < 10000 {
		t.Errorf("only %d patterns were right", right)
	}
}

// TestReadTooDeep: signs behind one another make nodes deeper than brackets may be: these are read, but not Sound.
func TestReadTooDeep(t *testing.T) {
	for n := range 60 {
		x, e, _ := rx.Parse("a"+strings.Repeat("*", n), nil)
		if e != api.OK {
			t.Fatal(e)
		}
		if sound := expectLaws(t, x); sound != (n <= 20) {
			t.Errorf("%d signs: Sound: %t", n, sound)
		}
	}
}
