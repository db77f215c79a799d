package rx_test

import (
	"regexp"
	"slices"
	"strconv"
	"strings"
	"testing"
	"unicode/utf8"

	"glyphcutter/api"
	"glyphcutter/fold"
	"glyphcutter/props"
	"glyphcutter/rx"
	"glyphcutter/set"
)

// The chapter's signs, each whole, and the longest front of it that is right.
var (
	wholeTimes = regexp.MustCompile(`^\{([0-9]{1,2})(,([0-9]{1,2})?)?\}`)
	frontTimes = regexp.MustCompile(`^\{([0-9][0-9]?(,([0-9][0-9]?)?)?)?`)
	wholeName  = regexp.MustCompile(`^\{([a-zA-Z][a-zA-Z0-9]*)\}`)
	frontName  = regexp.MustCompile(`^\{([a-zA-Z][a-zA-Z0-9]*)?`)
	wholeStep  = regexp.MustCompile(`^\\(?:([nrt|()\[\]{}*+?.\\^-])|x\{([0-9A-Fa-f]{1,6})\}|p\{([^}]*)\})`)
	frontStep  = regexp.MustCompile(`^\\(x(\{([0-9A-Fa-f]{1,6})?)?|p(\{[^}]*)?)?`)
)

// bracket is what is read so far within one: rows with strokes between, and the last of these.
type bracket struct {
	rows     []api.Node
	row      []api.Node
	caseless bool
}

// model reads a pattern by the chapter's words in another way: sign by sign, with a stack of brackets.
type model struct {
	s     string
	at    int
	defs  []api.Def
	stack []bracket
}

// wrong is an error and its place; with OK there is none.
type wrong struct {
	e  api.Errno
	at int
}

func told(s string, defs []api.Def) (api.Node, wrong) {
	if len(s) > 200 {
		return api.Node{}, wrong{api.ErrLong, 0}
	}
	for i, r := range s {
		if _, n := utf8.DecodeRuneInString(s[i:]); r == utf8.RuneError && n == 1 {
			return api.Node{}, wrong{api.ErrForm, i}
		}
	}
	m := model{s: s, defs: defs, stack: []bracket{{}}}
	for m.at < len(s) {
		if w := m.sign(); w.e != api.OK {
			return api.Node{}, w
		}
	}
	if len(m.stack) > 1 {
		return api.Node{}, wrong{api.ErrForm, m.at}
	}
	return m.stack[0].node(), wrong{}
}

func together(kind uint8, l []api.Node) api.Node {
	if len(l) == 1 {
		return l[0]
	}
	if len(l) == 0 {
		return api.Node{}
	}
	return api.Node{Kind: kind, Kids: l}
}

func (b *bracket) node() api.Node {
	return together(3, append(b.rows, together(2, b.row)))
}

func (m *model) top() *bracket { return &m.stack[len(m.stack)-1] }

// lay lays a node at the end of the row, after n bytes of the text.
func (m *model) lay(x api.Node, n int) wrong {
	m.top().row = append(m.top().row, x)
	m.at += n
	return wrong{}
}

func (m *model) set(l []api.Span, n int) wrong {
	l = set.Norm(l)
	if m.top().caseless {
		l = fold.Close(l)
	}
	return m.lay(api.Node{Kind: 1, Set: l}, n)
}

func (m *model) form(ahead int) wrong { return wrong{api.ErrForm, m.at + ahead} }

// sign reads one sign.
func (m *model) sign() wrong {
	rest := m.s[m.at:]
	switch rest[0] {
	case '|':
		m.top().rows = append(m.top().rows, together(2, m.top().row))
		m.top().row = nil
		m.at++
		return wrong{}
	case '(':
		return m.open()
	case ')':
		if len(m.stack) == 1 {
			return m.form(0)
		}
		x := m.top().node()
		m.stack = m.stack[:len(m.stack)-1]
		return m.lay(x, 1)
	case '*':
		return m.times(0, -1, 1)
	case '+':
		return m.times(1, -1, 1)
	case '?':
		return m.times(0, 1, 1)
	case '{':
		return m.curly()
	case ']', '}':
		return m.form(0)
	case '[':
		return m.class()
	case '\\':
		l, n, _, w := m.step(m.at)
		if w.e != api.OK {
			return w
		}
		return m.set(l, n)
	case '.':
		return m.set([]api.Span{{Lo: 0, Hi: 9}, {Lo: 11, Hi: 0x10ffff}}, 1)
	}
	r, n := utf8.DecodeRuneInString(rest)
	return m.set(spans(int(r), int(r)), n)
}

func (m *model) open() wrong {
	if len(m.stack) == 21 {
		return wrong{api.ErrDeep, m.at}
	}
	rest := m.s[m.at:]
	next := bracket{caseless: m.top().caseless}
	if strings.HasPrefix(rest, "(?") {
		if !strings.HasPrefix(rest, "(?i:") {
			return m.form(2)
		}
		next.caseless = true
		m.at += 3
	}
	m.at++
	m.stack = append(m.stack, next)
	return wrong{}
}

// times makes the last of the row so many times it.
func (m *model) times(least, most, n int) wrong {
	row := m.top().row
	if len(row) == 0 {
		return m.form(0)
	}
	row[len(row)-1] = api.Node{Kind: 4, Kids: []api.Node{row[len(row)-1]}, Min: least, Max: most}
	m.at += n
	return wrong{}
}

func (m *model) curly() wrong {
	rest := m.s[m.at:]
	if name := wholeName.FindStringSubmatch(rest); name != nil {
		for _, d := range m.defs {
			if d.Name == name[1] {
				if m.top().caseless {
					return m.lay(closedNode(d.Node), len(name[0]))
				}
				return m.lay(d.Node, len(name[0]))
			}
		}
		return wrong{api.ErrName, m.at}
	}
	front := len(frontName.FindString(rest))
	if len(m.top().row) == 0 {
		return m.form(front)
	}
	part := wholeTimes.FindStringSubmatch(rest)
	if part == nil {
		return m.form(max(front, len(frontTimes.FindString(rest))))
	}
	least, _ := strconv.Atoi(part[1])
	most := least
	if part[2] != "" {
		most = -1
	}
	if part[3] != "" {
		most, _ = strconv.Atoi(part[3])
	}
	if least > 20 || most > 20 || most >= 0 && most < least {
		return wrong{api.ErrLong, m.at + 1}
	}
	return m.times(least, most, len(part[0]))
}

// closedNode is a node with all its Sets closed.
func closedNode(n api.Node) api.Node {
	n.Set = fold.Close(n.Set)
	n.Kids = slices.Clone(n.Kids)
	for i := range n.Kids {
		n.Kids[i] = closedNode(n.Kids[i])
	}
	return n
}

// step is what an ESCAPE at a place tells, its length, and whether it is a class.
func (m *model) step(at int) ([]api.Span, int, bool, wrong) {
	rest := m.s[at:]
	part := wholeStep.FindStringSubmatch(rest)
	if part == nil {
		return nil, 0, false, wrong{api.ErrForm, at + len(frontStep.FindString(rest))}
	}
	switch {
	case part[1] != "":
		r := int(strings.NewReplacer("n", "\n", "r", "\r", "t", "\t").Replace(part[1])[0])
		return spans(r, r), len(part[0]), false, wrong{}
	case part[2] != "":
		r, _ := strconv.ParseInt(part[2], 16, 64)
		if r > 0x10ffff || r >= 0xd800 && r <= 0xdfff {
			return nil, 0, false, wrong{api.ErrForm, at}
		}
		return spans(int(r), int(r)), len(part[0]), false, wrong{}
	}
	l, ok := props.Of(part[3])
	if !ok {
		return nil, 0, false, wrong{api.ErrName, at}
	}
	return l, len(part[0]), true, wrong{}
}

// piece is what stands at a place within a class.
func (m *model) piece(at int) ([]api.Span, int, bool, wrong) {
	if at == len(m.s) || strings.ContainsRune("[]^-", rune(m.s[at])) {
		return nil, 0, false, wrong{api.ErrForm, at}
	}
	if m.s[at] == '\\' {
		return m.step(at)
	}
	r, n := utf8.DecodeRuneInString(m.s[at:])
	return spans(int(r), int(r)), n, false, wrong{}
}

func (m *model) class() wrong {
	at := m.at + 1
	not := strings.HasPrefix(m.s[at:], "^")
	if not {
		at++
	}
	var l []api.Span
	for !strings.HasPrefix(m.s[at:], "]") {
		x, n, many, w := m.piece(at)
		if w.e != api.OK {
			return w
		}
		if strings.HasPrefix(m.s[at+n:], "-") {
			y, k, manyToo, w := m.piece(at + n + 1)
			if w.e != api.OK {
				return w
			}
			if many || manyToo || x[0].Lo > y[0].Lo {
				return wrong{api.ErrForm, at}
			}
			x, n = spans(x[0].Lo, y[0].Lo), n+1+k
		}
		l = append(l, x...)
		at += n
	}
	if not {
		l = set.Not(l)
	}
	return m.set(l, at+1-m.at)
}

// expectTold holds Parse of a text against the model.
func expectTold(t *testing.T, s string, defs []api.Def) {
	t.Helper()
	want, w := told(s, defs)
	got, e, at := rx.Parse(s, defs)
	if e != w.e || at != w.at || !same(got, want) {
		t.Fatalf("Parse of %q: %s, %d, %d, want %s, %d, %d", s, text(got), e, at, text(want), w.e, w.at)
	}
	if f := fault(got); f != "" && len(defs) == 0 {
		t.Fatalf("Parse of %q: %s: %s", s, text(got), f)
	}
}

// fault says what a node has that its kind may not have.
func fault(n api.Node) string {
	kids, times := 0, n.Min != 0 || n.Max != 0
	switch n.Kind {
	case api.Empty, api.Chars:
	case api.Cat, api.Or:
		kids = max(2, len(n.Kids))
	case api.Rep:
		kids, times = 1, n.Min < 0 || n.Min > 20 || n.Max != -1 && n.Max < n.Min || n.Max > 20
	default:
		return "a kind that there is not"
	}
	switch {
	case len(n.Kids) != kids:
		return "kids"
	case times:
		return "times"
	case len(n.Set) > 0 && n.Kind != api.Chars || !slices.Equal(n.Set, set.Norm(n.Set)):
		return "a set"
	}
	for _, k := range n.Kids {
		if f := fault(k); f != "" {
			return f
		}
	}
	return ""
}

// TestModel holds the model itself against what the chapter's example and DOC's say.
func TestModel(t *testing.T) {
	for s, want := range map[string]wrong{"a)": {api.ErrForm, 1}, "{3}": {api.ErrForm, 1}, "a{3,2}": {api.ErrLong, 2}} {
		if _, w := told(s, nil); w != want {
			t.Errorf("%q: %d, %d", s, w.e, w.at)
		}
	}
	if n, w := told("a|b*", nil); w.e != api.OK || !same(n, or(a, rep(0, -1, b))) {
		t.Errorf("%s, %d, %d", text(n), w.e, w.at)
	}
}

// TestAllShort holds all rows of some signs, up to a length, behind some fronts, against the model.
func TestAllShort(t *testing.T) {
	for _, x := range []struct {
		front string
		most  int
		signs string
	}{
		{"", 3, `a D 1 2 , | ( ) * + ? { } [ ] \ ^ - . i : x p`},
		{"", 4, `a D 2 , | ( ) * { } [ ] \ -`},
		{"", 6, "a | ( ) *"},
		{"", 4, `a | ( ) (?i: {D} {2} {3,2} {X} {No} * [^a] \n`},
		{"[", 4, `a z - ^ ] [ \] \p{hex} \x{62}` + " \u00e9"},
		{"[^", 4, `a z - ^ ] \- \p{upper} \q \p{no} \x{d800} |`},
		{"a{", 6, "0 2 9 , } a"},
		{"{D}{", 4, "0 3 1 , } { D"},
		{"{", 5, "D o N 1 } - \u00e9"},
		{`\x`, 6, "{ 1 d F g }"},
		{`\x{1`, 6, "0 f }"},
		{`[a-\x{`, 5, "0 6 d 8 } ]"},
		{`\p`, 5, `{ h a n } \`},
		{"(?", 5, "i : ( ) ? A"},
		{"(?i:", 4, `a k ( ) | {D} {No} [k-l] \p{lower} \x{212a} .`},
		{strings.Repeat("(", 18), 6, "( ) a (?i: ? *"},
		{strings.Repeat("a", 194), 5, "\u00e9 a ) \xff"},
	} {
		row := []string{x.front}
		expectTold(t, x.front, modelDefs())
		for range x.most {
			var longer []string
			for _, s := range row {
				for _, sign := range strings.Split(x.signs, " ") {
					longer = append(longer, s+sign)
					expectTold(t, s+sign, modelDefs())
				}
			}
			row = longer
		}
	}
}

func modelDefs() []api.Def {
	return []api.Def{{Name: "D", Node: chars('0', '9', 'a', 'f')}, {Name: "No", Node: cat(one('k'), rep(1, 2, or(one('Q'), empty)))}, {Name: "D", Node: a}}
}

// picker draws numbers in one order that is the same each time.
type picker uint32

func (p *picker) below(n int) int {
	*p = *p*1664525 + 1013904223
	return int(*p>>8) % n
}

func (p *picker) of(l ...string) string { return l[p.below(len(l))] }

// atom is the text of an ATOM that is right.
func (p *picker) atom(deep int) string {
	switch p.below(8) {
	case 0:
		return "(" + p.alt(deep-1) + ")"
	case 1:
		return "(?i:" + p.alt(deep-1) + ")"
	case 2:
		return p.of("{D}", "{No}")
	case 3:
		out := p.of("[", "[^")
		for range p.below(4) {
			out += p.of("a", "k", `\]`, `\p{greek}`, `\p{hex}`, "a-z", `\x{3b1}-\x{3c9}`, ".", "(", "0-9", "\u00b5", `\t-\r`)
		}
		return out + "]"
	case 4:
		return p.of(".", `\n`, `\x{1e9e}`, `\p{Is_Latin}`, `\\`, `\-`, `\x{10FFFF}`)
	}
	return p.of("a", "b", "K", "1", "^", "-", ",", " ", "\n", "\u00df", "\u20ac", "\U0001f600")
}

// alt is the text of an ALT that is right.
func (p *picker) alt(deep int) string {
	if deep == 0 {
		return ""
	}
	var rows []string
	for range 1 + p.below(5)/2 {
		row := ""
		for range p.below(4) {
			row += p.atom(deep)
			for p.below(3) == 0 {
				row += p.of("*", "+", "?", "{2}", "{1,}", "{0,20}", "{03,4}")
			}
		}
		rows = append(rows, row)
	}
	return strings.Join(rows, "|")
}

// TestManyPatterns holds patterns that are right, and the same with some place changed, against the model.
func TestManyPatterns(t *testing.T) {
	p := picker(1)
	right := 0
	for range 20000 {
		s := p.alt(1 + p.below(5))
		expectTold(t, s, modelDefs())
		if _, e, _ := rx.Parse(s, modelDefs()); e == api.OK {
			right++
		} else if e != api.ErrLong || len(s) <= 200 {
			t.Fatalf("Parse of %q: %d", s, e)
		}
		for range 4 {
			at := p.below(len(s) + 1)
			until := min(len(s), at+p.below(3))
			expectTold(t, s[:at]+p.of("", "(", ")", "[", "]", "{", "}", `\`, "|", "*", "-", "^", "?", "{21}", "{X}", `\p{no}`, `\x{d800}`, "[b-a]", "a", "\xff", "(?")+s[until:], modelDefs())
		}
	}
	if right < 10000 {
		t.Errorf("only %d patterns were right", right)
	}
}

// TestAnyBytes: rows of any bytes are read, or not, as the model says (T8).
func TestAnyBytes(t *testing.T) {
	p := picker(7)
	for range 50000 {
		row := make([]byte, p.below(12))
		for i := range row {
			row[i] = byte(p.below(256))
		}
		expectTold(t, string(row), modelDefs())
	}
	for first := range 256 {
		expectTold(t, string([]byte{byte(first)}), nil)
		for second := range 256 {
			expectTold(t, string([]byte{byte(first), byte(second)}), nil)
			expectTold(t, string([]byte{'[', byte(first), byte(second), ']'}), nil)
			expectTold(t, string([]byte{'a', byte(first), '2', byte(second), '}'}), nil)
		}
	}
}
