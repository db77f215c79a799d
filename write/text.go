package write

import (
	"slices"
	"strconv"
	"strings"

	"glyphcutter/api"
)

// text is what is written so far of a sound node.
type text struct {
	strings.Builder
}

// put writes some texts, one behind the other.
func (t *text) put(parts ...string) {
	for _, part := range parts {
		t.WriteString(part)
	}
}

// node writes a node, without brackets around it.
func (t *text) node(n api.Node) {
	switch n.Kind {
	case api.Empty:
		t.put("()")
	case api.Chars:
		t.class(n.Set)
	case api.Cat:
		t.kids(n.Kids, "", oneOf(api.Cat, api.Or))
	case api.Or:
		t.kids(n.Kids, "|", oneOf(api.Or))
	case api.Rep:
		t.kids(n.Kids, "", oneOf(api.Cat, api.Or, api.Rep))
		t.times(n.Min, n.Max)
	}
}

// among says whether a kind is one of some.
type among func(kind uint8) bool

// oneOf is some kinds.
func oneOf(kinds ...uint8) among {
	return func(kind uint8) bool { return slices.Contains(kinds, kind) }
}

// kids writes nodes with a sign between, those of some kinds in brackets.
func (t *text) kids(l []api.Node, between string, bracketed among) {
	for i, kid := range l {
		if i > 0 {
			t.put(between)
		}
		if bracketed(kid.Kind) {
			t.put("(")
			t.node(kid)
			t.put(")")
			continue
		}
		t.node(kid)
	}
}

// class writes a set in brackets; an empty one as what is left of all scalars without all of them.
func (t *text) class(l []api.Span) {
	if len(l) == 0 {
		t.put(`[^\x{0}-\x{10ffff}]`)
		return
	}
	t.put("[")
	for _, s := range l {
		t.put(scalar(s.Lo), "-", scalar(s.Hi))
	}
	t.put("]")
}

// scalar is the sign of a scalar by its number.
func scalar(r int) string {
	return `\x{` + strconv.FormatInt(int64(r), 16) + "}"
}

// times writes how often what stands ahead is told.
func (t *text) times(least, most int) {
	t.put("{", strconv.Itoa(least), ",")
	if most != -1 {
		t.put(strconv.Itoa(most))
	}
	t.put("}")
}
