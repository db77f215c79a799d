package rx_test

import (
	"slices"
	"strconv"
	"strings"
	"testing"

	"glyphcutter/api"
	"glyphcutter/fold"
	"glyphcutter/props"
	"glyphcutter/rx"
	"glyphcutter/set"
)

// spans takes Lo and Hi in turn.
func spans(n ...int) []api.Span {
	var out []api.Span
	for i := 0; i+1 < len(n); i += 2 {
		out = append(out, api.Span{Lo: n[i], Hi: n[i+1]})
	}
	return out
}

// chars takes Lo and Hi in turn.
func chars(n ...int) api.Node { return api.Node{Kind: api.Chars, Set: spans(n...)} }

// one is the node of one scalar.
func one(c int) api.Node { return chars(c, c) }

func of(l []api.Span) api.Node { return api.Node{Kind: api.Chars, Set: l} }

func cat(kids ...api.Node) api.Node { return api.Node{Kind: api.Cat, Kids: kids} }

func or(kids ...api.Node) api.Node { return api.Node{Kind: api.Or, Kids: kids} }

func rep(least, most int, kid api.Node) api.Node {
	return api.Node{Kind: api.Rep, Kids: []api.Node{kid}, Min: least, Max: most}
}

// class is the node of a class by its name.
func class(name string) api.Node {
	l, _ := props.Of(name)
	return of(l)
}

var (
	empty = api.Node{Kind: api.Empty}
	a     = one('a')
	b     = one('b')
	c     = one('c')
	all   = chars(0, 0xd7ff, 0xe000, 0x10ffff)
	dot   = chars(0, 9, 11, 0xd7ff, 0xe000, 0x10ffff)
)

// same says whether two nodes are alike in all that they have.
func same(x, y api.Node) bool {
	return x.Kind == y.Kind && x.Min == y.Min && x.Max == y.Max && slices.Equal(x.Set, y.Set) && slices.EqualFunc(x.Kids, y.Kids, same)
}

// text is a node as it is shown where it is wrong.
func text(n api.Node) string {
	var out strings.Builder
	out.WriteString("[" + strconv.Itoa(int(n.Kind)))
	for _, s := range n.Set {
		out.WriteString(" " + strconv.FormatInt(int64(s.Lo), 16) + "-" + strconv.FormatInt(int64(s.Hi), 16))
	}
	for _, k := range n.Kids {
		out.WriteString(" " + text(k))
	}
	if n.Min != 0 || n.Max != 0 {
		out.WriteString(" " + strconv.Itoa(n.Min) + "," + strconv.Itoa(n.Max))
	}
	return out.String() + "]"
}

// expectNode asks for a pattern that is right.
func expectNode(t *testing.T, s string, defs []api.Def, want api.Node) {
	t.Helper()
	got, e, at := rx.Parse(s, defs)
	if e != api.OK || at != 0 || !same(got, want) {
		t.Errorf("Parse of %q: %s, %d, %d, want %s", s, text(got), e, at, text(want))
	}
}

// patterns are texts with what they tell.
type patterns map[string]api.Node

func (l patterns) expect(t *testing.T, defs []api.Def) {
	t.Helper()
	for s, want := range l {
		expectNode(t, s, defs, want)
	}
}

func TestOrAndCat(t *testing.T) {
	patterns{
		"": empty, "a": a, "ab": cat(a, b), "abc": cat(a, b, c),
		"a|b": or(a, b), "a|b|c": or(a, b, c), "ab|c": or(cat(a, b), c), "a|bc": or(a, cat(b, c)),
		"|": or(empty, empty), "||": or(empty, empty, empty), "a|": or(a, empty), "|a": or(empty, a), "a||b": or(a, empty, b),
		"a|a": or(a, a), "aa": cat(a, a), "ba": cat(b, a), "b|a": or(b, a),
		"a|b*": or(a, rep(0, -1, b)),
	}.expect(t, nil)
}

// TestGroups: brackets tell what is in them; nodes within one another stay so, be they of one kind or not.
func TestGroups(t *testing.T) {
	patterns{
		"()": empty, "(())": empty, "(a)": a, "((a))": a, "(ab)": cat(a, b), "(a|b)": or(a, b),
		"(ab)c": cat(cat(a, b), c), "a(bc)": cat(a, cat(b, c)), "(a)(b)": cat(a, b), "(a)b": cat(a, b),
		"(a|b)|c": or(or(a, b), c), "a|(b|c)": or(a, or(b, c)), "(a|b)c": cat(or(a, b), c), "a(b|c)": cat(a, or(b, c)),
		"()a": cat(empty, a), "a()": cat(a, empty), "()()": cat(empty, empty), "()|a": or(empty, a), "(|)": or(empty, empty),
		"((a|b)c)*": rep(0, -1, cat(or(a, b), c)),
	}.expect(t, nil)
}

func TestSigns(t *testing.T) {
	patterns{
		"a*": rep(0, -1, a), "a+": rep(1, -1, a), "a?": rep(0, 1, a),
		"a{3}": rep(3, 3, a), "a{3,}": rep(3, -1, a), "a{3,5}": rep(3, 5, a), "a{3,3}": rep(3, 3, a),
		"a{0}": rep(0, 0, a), "a{0,}": rep(0, -1, a), "a{0,0}": rep(0, 0, a), "a{0,1}": rep(0, 1, a), "a{1}": rep(1, 1, a),
		"a{20}": rep(20, 20, a), "a{20,}": rep(20, -1, a), "a{20,20}": rep(20, 20, a), "a{0,20}": rep(0, 20, a),
		"a{00}": rep(0, 0, a), "a{07}": rep(7, 7, a), "a{07,}": rep(7, -1, a), "a{7,08}": rep(7, 8, a), "a{9,10}": rep(9, 10, a),
		"a**": rep(0, -1, rep(0, -1, a)), "a*?": rep(0, 1, rep(0, -1, a)), "a+?*": rep(0, -1, rep(0, 1, rep(1, -1, a))),
		"a{2}{3}": rep(3, 3, rep(2, 2, a)), "a{2}*": rep(0, -1, rep(2, 2, a)), "a*{2,3}": rep(2, 3, rep(0, -1, a)), "a?{1,}+": rep(1, -1, rep(1, -1, rep(0, 1, a))),
		"ab*": cat(a, rep(0, -1, b)), "a*b": cat(rep(0, -1, a), b), "a*b+": cat(rep(0, -1, a), rep(1, -1, b)), "a*|b": or(rep(0, -1, a), b),
		"(ab)*": rep(0, -1, cat(a, b)), "(a|b)+": rep(1, -1, or(a, b)), "()*": rep(0, -1, empty), "(){2}": rep(2, 2, empty), "(a*)*": rep(0, -1, rep(0, -1, a)),
		".*": rep(0, -1, dot), "[a]*": rep(0, -1, a), `\**`: rep(0, -1, one('*')), `\x{61}{2}`: rep(2, 2, a), `\p{han}?`: rep(0, 1, class("han")),
	}.expect(t, nil)
}

// TestAllTimes: all numbers of times, with one digit and with two, those that are right and those that are not.
func TestAllTimes(t *testing.T) {
	wrote := func(n int) []string {
		two := string([]byte{byte('0' + n/10), byte('0' + n%10)})
		if n < 10 {
			return []string{two, two[1:]}
		}
		return []string{two}
	}
	for n := range 100 {
		for _, least := range wrote(n) {
			expectTimes(t, "a{"+least+"}", n, n, n <= 20)
			expectTimes(t, "a{"+least+",}", n, -1, n <= 20)
			for m := range 100 {
				for _, most := range wrote(m) {
					expectTimes(t, "a{"+least+","+most+"}", n, m, n <= m && m <= 20)
				}
			}
		}
	}
}

func expectTimes(t *testing.T, s string, least, most int, ok bool) {
	t.Helper()
	if ok {
		expectNode(t, s, nil, rep(least, most, a))
	} else {
		expectFault(t, s, nil, api.ErrLong, 2)
	}
}

// TestEveryScalar: each by itself is that scalar, but those that are signs.
func TestEveryScalar(t *testing.T) {
	for r := 0; r <= 0x10ffff; r++ {
		if r >= 0xd800 && r <= 0xdfff {
			continue
		}
		switch s := string(rune(r)); {
		case r == '.':
			expectNode(t, s, nil, dot)
		case r == '|':
			expectNode(t, s, nil, or(empty, empty))
		case r == '(' || r == '[' || r == '{' || r == '\\':
			expectFault(t, s, nil, api.ErrForm, 1)
		case strings.ContainsRune(")]}*+?", rune(r)):
			expectFault(t, s, nil, api.ErrForm, 0)
		default:
			expectNode(t, s, nil, one(r))
		}
	}
}

// TestScalarsInARow: scalars of several bytes are one each; what is a sign elsewhere is none here.
func TestScalarsInARow(t *testing.T) {
	patterns{
		"\u00e9*": rep(0, -1, one(0xe9)), "\u20ac\U0001f600": cat(one(0x20ac), one(0x1f600)), "\x00|\x7f": or(one(0), one(0x7f)),
		"^-": cat(one('^'), one('-')), "a-c": cat(a, one('-'), c), "^a": cat(one('^'), a), "a,b": cat(a, one(','), b), ":": one(':'), "$": one('$'), "/": one('/'),
		"\n": one('\n'), " a": cat(one(' '), a), "\ufffd": one(0xfffd), "\ud7ff\ue000": cat(one(0xd7ff), one(0xe000)), "\U0010ffff": one(0x10ffff), "#": one('#'), "\"": one('"'), "ni:": cat(one('n'), one('i'), one(':')),
	}.expect(t, nil)
}

// TestEscapes: each byte of ASCII behind a stroke, in a class and out of one.
func TestEscapes(t *testing.T) {
	for r := range 0x80 {
		s := `\` + string(rune(r))
		want := one(r)
		switch {
		case r == 'n':
			want = one(0x0a)
		case r == 'r':
			want = one(0x0d)
		case r == 't':
			want = one(0x09)
		case r == 'x' || r == 'p':
			expectFault(t, s, nil, api.ErrForm, 2)
			expectFault(t, s+"a", nil, api.ErrForm, 2)
			expectFault(t, "["+s+"]", nil, api.ErrForm, 3)
			continue
		case !strings.ContainsRune(`|()[]{}*+?.\^-`, rune(r)):
			expectFault(t, s, nil, api.ErrForm, 1)
			expectFault(t, "["+s+"]", nil, api.ErrForm, 2)
			continue
		}
		expectNode(t, s, nil, want)
		expectNode(t, "["+s+"]", nil, want)
		expectNode(t, s+s, nil, cat(want, want))
		expectNode(t, "["+s+"-"+s+"]", nil, want)
	}
}

func TestNumbers(t *testing.T) {
	for s, r := range map[string]int{
		"0": 0, "00": 0, "000000": 0, "a": 10, "A": 10, "61": 'a', "0061": 'a', "000061": 'a', "7f": 0x7f, "80": 0x80, "e9": 0xe9, "E9": 0xe9,
		"d7ff": 0xd7ff, "D7fF": 0xd7ff, "e000": 0xe000, "00E000": 0xe000, "fffd": 0xfffd, "FFFF": 0xffff, "10000": 0x10000, "abcde": 0xabcde, "0F0F0F": 0xf0f0f, "9": 9, "10ffff": 0x10ffff, "10FFFF": 0x10ffff, "012345": 0x12345, "6789": 0x6789, "BCDEF": 0xbcdef,
	} {
		expectNode(t, `\x{`+s+`}`, nil, one(r))
		expectNode(t, `[\x{`+s+`}]`, nil, one(r))
		expectNode(t, `[\x{`+s+`}-\x{10ffff}]`, nil, of(set.Norm(spans(r, 0x10ffff))))
	}
	for _, r := range []int{0xd7fe, 0xd7ff, 0xd800, 0xd801, 0xdbff, 0xdc00, 0xdffe, 0xdfff, 0xe000, 0xe001, 0x10fffe, 0x10ffff, 0x110000, 0x110001, 0x200000, 0x7fffff, 0x800000, 0xffffff} {
		s := `\x{` + strconv.FormatInt(int64(r), 16) + `}`
		if len(set.Norm(spans(r, r))) == 0 {
			expectFault(t, s, nil, api.ErrForm, 0)
			expectFault(t, "ab"+s+")", nil, api.ErrForm, 2)
			expectFault(t, "[a"+s+"]", nil, api.ErrForm, 2)
		} else {
			expectNode(t, s, nil, one(r))
		}
	}
}

func TestNames(t *testing.T) {
	for _, name := range props.Names() {
		for _, s := range []string{name, strings.ToUpper(name), "is" + name, "Is_" + name, " " + name + "-"} {
			expectNode(t, `\p{`+s+`}`, nil, class(name))
			expectNode(t, `[\p{`+s+`}]`, nil, class(name))
			expectNode(t, `[^\p{`+s+`}]`, nil, of(set.Not(class(name).Set)))
			expectNode(t, `(?i:\p{`+s+`})`, nil, of(fold.Close(class(name).Set)))
		}
	}
	for _, s := range []string{"", "none", "L", "is", "han|hex", "{", `\`, "[a]", "(", "\n", "\u00e9", "any\x00", "{any"} {
		expectFault(t, `\p{`+s+`}`, nil, api.ErrName, 0)
		expectFault(t, `ab\p{`+s+`}c)`, nil, api.ErrName, 2)
		expectFault(t, `[a\p{`+s+`}`, nil, api.ErrName, 2)
	}
}

func TestClasses(t *testing.T) {
	patterns{
		"[]": chars(), "[^]": all, "[a]": a, "[abc]": chars('a', 'c'), "[cab]": chars('a', 'c'), "[aa]": a, "[ac]": chars('a', 'a', 'c', 'c'),
		"[^a]": chars(0, 'a'-1, 'b', 0xd7ff, 0xe000, 0x10ffff), "[^\x00]": chars(1, 0xd7ff, 0xe000, 0x10ffff),
		"[a-c]": chars('a', 'c'), "[a-a]": a, "[a-cb-e]": chars('a', 'e'), "[a-cx-z]": chars('a', 'c', 'x', 'z'), "[x-za-c]": chars('a', 'c', 'x', 'z'),
		"[a-cd]": chars('a', 'd'), "[ba-c]": chars('a', 'c'), "[^a-c]": chars(0, 'a'-1, 'd', 0xd7ff, 0xe000, 0x10ffff),
		"[.]": one('.'), "[|()*+?{}]": chars('(', '+', '?', '?', '{', '}'), "[{D}]": chars('D', 'D', '{', '{', '}', '}'), "[(?i:a)]": chars('(', ')', ':', ':', '?', '?', 'a', 'a', 'i', 'i'),
		"[\u00e9-\u20ac]": chars(0xe9, 0x20ac), "[\U0001f600]": one(0x1f600), "[\n]": one('\n'), "[\x00-\U0010ffff]": all, "[^\x00-\U0010ffff]": chars(),
		`[\]]`: one(']'), `[\[]`: one('['), `[\-a]`: chars('-', '-', 'a', 'a'), `[a\-c]`: chars('-', '-', 'a', 'a', 'c', 'c'), `[\^]`: one('^'), `[^\^]`: of(set.Not(spans('^', '^'))), `[\\]`: one('\\'),
		`[+-\-]`: chars('+', '-'), `[\--/]`: chars('-', '/'), `[\[-\]]`: chars('[', ']'), `[\t-\r]`: chars(9, 13), `[\n-\n]`: one('\n'), `[\x{61}-c]`: chars('a', 'c'), `[a-\x{63}]`: chars('a', 'c'),
		`[\x{d7ff}-\x{e000}]`: chars(0xd7ff, 0xd7ff, 0xe000, 0xe000), `[\x{0}-\x{10ffff}]`: all, `[^\x{0}-\x{10ffff}]`: chars(), `[\x{d7ff}\x{e000}]`: chars(0xd7ff, 0xd7ff, 0xe000, 0xe000),
		`[\p{hex}]`: class("hex"), `[\p{hex}g-z]`: chars('0', '9', 'A', 'F', 'a', 'z'), `[g\p{hex}_]`: chars('0', '9', 'A', 'F', '_', '_', 'a', 'g'), `[^\p{any}]`: chars(), `[\p{any}a]`: all, `[\p{hex}\p{hex}]`: class("hex"),
		`[\p{lower}\p{upper}]`: of(set.Union(class("lower").Set, class("upper").Set)),
		"[a][b]":               cat(a, b), "[a]|[b]": or(a, b), "a[]b": cat(a, chars(), b), "([a])": a,
	}.expect(t, nil)
}

// definitions have one name twice, names that no pattern can tell, and a node of each kind.
func definitions() []api.Def {
	return []api.Def{
		{Name: "D", Node: chars('0', '9')},
		{Name: "d", Node: one('d')},
		{Name: "D", Node: one('x')},
		{Name: "", Node: one('y')},
		{Name: "1", Node: one('1')},
		{Name: "3,4", Node: one('3')},
		{Name: "a b", Node: one('4')},
		{Name: "E", Node: empty},
		{Name: "Num", Node: cat(rep(1, -1, chars('0', '9')), rep(0, 1, or(one('e'), one('E'))))},
		{Name: "x1Y2", Node: rep(2, 3, a)},
		{Name: "N0", Node: chars()},
		{Name: "aZzA09", Node: c},
		{Name: strings.Repeat("n", 198), Node: one('n')},
	}
}

func TestDefinitions(t *testing.T) {
	digit := chars('0', '9')
	defs := definitions()
	num := defs[8].Node
	patterns{
		"{D}": digit, "{d}": one('d'), "{E}": empty, "{Num}": num, "{x1Y2}": rep(2, 3, a), "{N0}": chars(), "{aZzA09}": c,
		"{" + strings.Repeat("n", 198) + "}": one('n'),
		"{D}{D}":                             cat(digit, digit), "{D}d": cat(digit, one('d')), "{D}|{d}": or(digit, one('d')), "({D})": digit,
		"{D}*": rep(0, -1, digit), "{D}{2}": rep(2, 2, digit), "{D}{2}{D}": cat(rep(2, 2, digit), digit), "{D}+[.]{D}+": cat(rep(1, -1, digit), one('.'), rep(1, -1, digit)),
		"a{D}": cat(a, digit), "a*{D}": cat(rep(0, -1, a), digit), "a{2}{D}": cat(rep(2, 2, a), digit), "({D}){D}": cat(digit, digit), ".{D}": cat(dot, digit), "[{D}]": chars('D', 'D', '{', '{', '}', '}'),
		"{Num}+": rep(1, -1, num), "a{Num}": cat(a, num), "a|{Num}": or(a, num), "{E}{E}": cat(empty, empty), "{x1Y2}{2,3}": rep(2, 3, rep(2, 3, a)),
		`\{D\}`: cat(one('{'), one('D'), one('}')),
	}.expect(t, defs)
	for _, s := range []string{"{X}", "{dd}", "{D1}", "{num}", "{NUM}", "{x1y2}", "{e}", "{nn}", "{any}", "{han}"} {
		expectFault(t, s, defs, api.ErrName, 0)
		expectFault(t, "a"+s, defs, api.ErrName, 1)
		expectFault(t, "{D}*("+s+"*)", defs, api.ErrName, 5)
	}
	expectFault(t, "{D}", nil, api.ErrName, 0)
	expectFault(t, "{D}", []api.Def{}, api.ErrName, 0)
}

// TestCaseless: in such a bracket all sets are closed, in those within it, too; ahead of it and behind it none is.
func TestCaseless(t *testing.T) {
	k := chars('K', 'K', 'k', 'k', 0x212a, 0x212a)
	anyA, anyB := chars('A', 'A', 'a', 'a'), chars('B', 'B', 'b', 'b')
	patterns{
		"(?i:)": empty, "(?i:a)": anyA, "(?i:A)": anyA, "(?i:k)": k, "(?i:\u212a)": k, "(?i:K)": k, "(?i:1)": one('1'), "(?i:.)": dot, "(?i:[])": chars(), "(?i:|)": or(empty, empty),
		"(?i:ab)": cat(anyA, anyB), "(?i:a|b)": or(anyA, anyB), "(?i:a*)": rep(0, -1, anyA), "(?i:a)*": rep(0, -1, anyA), "(?i:a{2,})b": cat(rep(2, -1, anyA), b),
		"a(?i:a)a": cat(a, anyA, a), "(?i:a)|a": or(anyA, a), "(?i:a)(a)": cat(anyA, a), "((?i:a)a)": cat(anyA, a), "(a(?i:b)a)b": cat(cat(a, anyB, a), b),
		"(?i:(a))": anyA, "(?i:(a)a)": cat(anyA, anyA), "(?i:a(b)a)a": cat(cat(anyA, anyB, anyA), a), "(?i:(?i:a)a)a": cat(cat(anyA, anyA), a), "(?i:((a)))a": cat(anyA, a),
		"(?i:[a-c])": chars('A', 'C', 'a', 'c'), "(?i:[^a])": all, "(?i:[^\\p{latin}])": of(fold.Close(set.Not(class("latin").Set))), "(?i:[^aA])": chars(0, 'A'-1, 'B', 'a'-1, 'b', 0xd7ff, 0xe000, 0x10ffff),
		`(?i:\x{61})`: anyA, `(?i:\n)`: one('\n'), `(?i:[\x{61}\x{62}])`: chars('A', 'B', 'a', 'b'), `(?i:\p{upper})`: of(fold.Close(class("upper").Set)), "(?i:\u00df)": chars(0xdf, 0xdf, 0x1e9e, 0x1e9e),
		"(i:a)": cat(one('i'), one(':'), a), `(\?i:a)`: cat(one('?'), one('i'), one(':'), a), "( ?i:a)": cat(rep(0, 1, one(' ')), one('i'), one(':'), a),
	}.expect(t, nil)
}

// TestCaselessDefinitions: a definition's Sets are closed within such a bracket, however deep they lie; elsewhere they stay.
func TestCaselessDefinitions(t *testing.T) {
	anyA, anyB := chars('A', 'A', 'a', 'a'), chars('B', 'B', 'b', 'b')
	deep := cat(a, or(b, rep(2, 3, cat(empty, b, rep(0, -1, or(a, one('1')))))))
	deepClosed := cat(anyA, or(anyB, rep(2, 3, cat(empty, anyB, rep(0, -1, or(anyA, one('1')))))))
	defs := []api.Def{{Name: "A", Node: a}, {Name: "Deep", Node: deep}, {Name: "E", Node: empty}, {Name: "N", Node: chars()}, {Name: "AB", Node: cat(a, b)}}
	patterns{
		"(?i:{A})": anyA, "(?i:{A})*{A}": cat(rep(0, -1, anyA), a), "{A}(?i:{A}{A})": cat(a, cat(anyA, anyA)), "(?i:({A}))": anyA, "(?i:{A}|b)": or(anyA, anyB), "((?i:b){A})": cat(anyB, a),
		"(?i:{Deep})": deepClosed, "{Deep}(?i:{Deep}){Deep}": cat(deep, deepClosed, deep), "(?i:{Deep}{Deep})": cat(deepClosed, deepClosed),
		"(?i:{E})": empty, "(?i:{N})": chars(), "(?i:{AB}+)": rep(1, -1, cat(anyA, anyB)), "{AB}": cat(a, b),
	}.expect(t, defs)
	expectFault(t, "(?i:{a})", defs, api.ErrName, 4)
}

// TestKinds: a kind's fields are those that the chapter names, all else is nought.
func TestKinds(t *testing.T) {
	n, e, at := rx.Parse("(a|[^b]){2,3}.|", nil)
	want := api.Node{Kind: 3, Kids: []api.Node{
		{Kind: 2, Kids: []api.Node{
			{Kind: 4, Min: 2, Max: 3, Kids: []api.Node{{Kind: 3, Kids: []api.Node{
				{Kind: 1, Set: spans(0x61, 0x61)},
				{Kind: 1, Set: spans(0, 0x61, 0x63, 0xd7ff, 0xe000, 0x10ffff)},
			}}}},
			{Kind: 1, Set: spans(0, 9, 11, 0xd7ff, 0xe000, 0x10ffff)},
		}},
		{Kind: 0},
	}}
	if e != 0 || at != 0 || !same(n, want) {
		t.Errorf("%s, %d, %d", text(n), e, at)
	}
}

// TestLongest: a pattern may have as many bytes as there may be, be they of scalars of one byte or of more.
func TestLongest(t *testing.T) {
	row := func(n int, kid api.Node) api.Node { return cat(slices.Repeat([]api.Node{kid}, n)...) }
	patterns{
		strings.Repeat("a", 199): row(199, a), strings.Repeat("a", 200): row(200, a),
		strings.Repeat("\u00e9", 100): row(100, one(0xe9)), strings.Repeat("\U0001f600", 50): row(50, one(0x1f600)),
		strings.Repeat("|", 200): or(slices.Repeat([]api.Node{empty}, 201)...), "[" + strings.Repeat("a", 198) + "]": a,
		`\p{` + strings.Repeat("-", 193) + "any}": all,
	}.expect(t, nil)
	deep := a
	for range 199 {
		deep = rep(0, -1, deep)
	}
	expectNode(t, "a"+strings.Repeat("*", 199), nil, deep)
}
