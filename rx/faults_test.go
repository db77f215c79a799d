package rx_test

import (
	"slices"
	"strings"
	"testing"

	"glyphcutter/api"
	"glyphcutter/rx"
)

// expectFault asks for a pattern that is wrong: then there is no node.
func expectFault(t *testing.T, s string, defs []api.Def, want api.Errno, place int) {
	t.Helper()
	n, e, at := rx.Parse(s, defs)
	if e != want || at != place || !same(n, api.Node{}) {
		t.Errorf("Parse of %q: %s, %d, %d, want %d, %d", s, text(n), e, at, want, place)
	}
}

// misplaced are texts with the place of what may not stand there.
type misplaced map[string]int

func (l misplaced) expect(t *testing.T, defs []api.Def) {
	t.Helper()
	for s, at := range l {
		expectFault(t, s, defs, api.ErrForm, at)
	}
}

func TestWhatMayNotStand(t *testing.T) {
	misplaced{
		"a)": 1, "{3}": 1, ")": 0, "(": 1, "(a": 2, "(a|": 3, "((a)": 4, "(a))": 3, "())": 2, "a|)": 2, "(]": 1, "(}": 1, "(a]": 2,
		"*": 0, "+": 0, "?": 0, "*a": 0, "a|*": 2, "a|+": 2, "a|?": 2, "(*)": 1, "(+)": 1, "(|*)": 2, "(?i:*)": 4, "(?i:?)": 4, "|*": 1,
		"]": 0, "}": 0, "a]": 1, "a}": 1, "a*]": 2, "a|}": 2, "a{2}}": 4, "[a]]": 3, "{D}}": 3,
		"\u00e9)": 2, "\U0001f600*)": 5, "\n)": 1, "a\u20ac|*": 5,
	}.expect(t, definitions())
}

func TestCounts(t *testing.T) {
	misplaced{
		"a{": 2, "a{}": 2, "a{ 3}": 2, "a{,}": 2, "a{,3}": 2, "a{-1}": 2, "a{{": 2, "a{\u00e9": 2, "a{)": 2, "a{*": 2, "a{_}": 2,
		"a{3": 3, "a{3 }": 3, "a{3a}": 3, "a{3;4}": 3, "a{3|": 3, "a{3{": 3, "a{12": 4, "a{123}": 4, "a{000}": 4, "a{12a": 4,
		"a{3,": 4, "a{3, 4}": 4, "a{3,a}": 4, "a{3,,": 4, "a{3,-": 4, "a{3,4": 5, "a{3,4,5}": 5, "a{3,4 }": 5, "a{3,4a}": 5, "a{3,12": 6, "a{3,123}": 6, "a{12,34,": 7,
		"(a){": 4, "[a]{": 4, ".{": 2, "a*{": 3, "a*{}": 3, "a{2}{": 5, "a{2}{}": 5, "{D}{": 4, "{D}{}": 4, "\u00e9{3x": 4,
		"{0}": 1, "{1,2}": 1, "({3})": 2, "a|{3}": 3, "(?i:{3}": 5, "a|{": 3, "({": 2, "|{,": 2,
	}.expect(t, definitions())
}

// TestTooOften: the place is that of the first number, be that one too great or the other one wrong.
func TestTooOften(t *testing.T) {
	for s, at := range map[string]int{
		"a{21}": 2, "a{99}": 2, "a{21,}": 2, "a{0,21}": 2, "a{20,21}": 2, "a{3,2}": 2, "a{1,0}": 2, "a{20,19}": 2, "a{10,9}": 2, "a{21,20}": 2, "a{99,99}": 2, "a{03,02}": 2,
		"(ab|c){30}": 7, "a*{3,2}": 3, "a{2}{3,2}": 5, "\u00e9{21}": 3, "{D}{21}": 4, "a{21})": 2, "(a{21}": 3, "a{3,2}{X}": 2,
	} {
		expectFault(t, s, definitions(), api.ErrLong, at)
	}
}

// TestReadToItsEnd: what is not right within a sign of several characters, or missing at its end, is told ahead of what is wrong with the sign.
func TestReadToItsEnd(t *testing.T) {
	misplaced{
		"a{21": 4, "a{21x": 4, "a{21,": 5, "a{21,x}": 5, "a{3,2": 5, "a{3,2x}": 5, "a{30,20x": 7, "a{21,999}": 7,
		"{X": 2, "{X-}": 2, "{X\u00e9}": 2, "{X ": 2, "{Xx1": 4, "{D": 2, "{D-": 2, "{ D}": 1, "{}": 1, "{": 1, "{1D}": 1, "{_D}": 1, "{-": 1, "{\u00e9}": 1, "{{D}}": 1, "{D{": 2, "{D,}": 2, "{D_}": 2,
		"a{X": 3, "a{X-}": 3, "a{D": 3, "a{D,2}": 3,
		`\p{none`: 7, `\p{`: 3, `\p`: 2, `\pL`: 2, `\p L}`: 2, `\p}`: 2, `\p(`: 2, `\p{any`: 6, `\p{any)`: 7, `[\p{none`: 8, `[\p`: 3, `[\p]`: 3, "\\p{\u00e9": 5, `\P{any}`: 1,
		`\x`: 2, `\x6`: 2, `\x }`: 2, `\x}`: 2, `\x{`: 3, `\x{}`: 3, `\x{g}`: 3, `\x{ 61}`: 3, `\x{-1}`: 3, `\x{+1}`: 3, `\x{0x61}`: 4, `\x{61`: 5, `\x{61 }`: 5, `\x{61g}`: 5, `\x{6_1}`: 4,
		`\x{d800`: 7, `\x{110000`: 9, `\x{110000x`: 9, `\x{1100000}`: 9, `\x{0000061}`: 9, `\x{ffffff0`: 9, "\\x{6\u00e9}": 4, `[\x{d800`: 8, `[\x{110000]`: 10, `\X{61}`: 1,
	}.expect(t, definitions())
}

func TestStrokes(t *testing.T) {
	misplaced{
		`\`: 1, `a\`: 2, `\a`: 1, `\N`: 1, `\1`: 1, `\ `: 1, "\\\n": 1, "\\\u00e9": 1, `\"`: 1, `\,`: 1, `\/`: 1, `\:`: 1, `\$`: 1, `\_`: 1, "\\\x00": 1, `\\\`: 3,
		`[\`: 2, `[\a]`: 2, `[a\`: 3, "[\\\U0001f600]": 2, `(\q)`: 2, `\d`: 1, `\s`: 1, `\w`: 1, `\b`: 1, `\u0061`: 1, `\X`: 1, `\P`: 1, `\T`: 1, `\R`: 1, `\i`: 1,
	}.expect(t, nil)
}

func TestWrongClasses(t *testing.T) {
	misplaced{
		"[": 1, "[^": 2, "[a": 2, "[^a": 3, "[[]": 1, "[a[]": 2, "[^^]": 2, "[a^]": 2, "[-]": 1, "[-a]": 1, "[a-]": 3, "[a-": 3, "[^-]": 2, "[^-a]": 2,
		"[a--]": 3, "[a-^]": 3, "[a-[]": 3, "[--a]": 1, "[a-c-e]": 4, "[a-c-]": 4, `[\--]`: 4, `[a-\`: 4, `[a-\q]`: 4, "[a-c": 4, `[\p{hex}-]`: 9, `[\p{hex}-`: 9, `[\p{hex}--a]`: 9,
		"[b-a]": 1, "[^b-a]": 2, "[xb-a]": 2, "[\u00e9-a]": 1, "[x\u20ac-\u00e9]": 2, `[b-\x{61}]`: 1, `[\x{62}-a]`: 1, `[x\x{62}-\x{61}]`: 2, `[\r-\n]`: 1, `[a-\t]`: 1, "[a-cz-y]": 4,
		`[\p{hex}-z]`: 1, `[a-\p{hex}]`: 1, `[\p{hex}-\p{hex}]`: 1, `[0\p{hex}-z]`: 2, `[0a-\p{hex}]`: 2, `[\p{any}-\x{10ffff}]`: 1, `[\x{0}-\p{any}]`: 1, `[\p{hex}-0`: 1,
		`[a-\x{d800}]`: 3, `[z-\x{110000}]`: 3, `[\x{d800}-a]`: 1, `[\x{d800}-\x{110000}]`: 1, `[a-\x{d800`: 10, `[\p{hex}-\x{d800}]`: 9, `[a-\x{6g`: 7,
		"a[b": 3, "[a]b[": 5, "([)": 3, "([a)": 4, "[b-a": 1, "[b-a-": 1,
	}.expect(t, nil)
	for s, at := range map[string]int{`[\p{no}]`: 1, `[\p{no}-a]`: 1, `[z-\p{no}]`: 3, `[\p{hex}-\p{no}]`: 9, `[\p{no}-\p{hex}]`: 1, `[a-\p{no}-]`: 3} {
		expectFault(t, s, nil, api.ErrName, at)
	}
}

func TestWrongCaseless(t *testing.T) {
	misplaced{
		"(?": 2, "(?)": 2, "(?:a)": 2, "(?i": 2, "(?i)": 2, "(?ia)": 2, "(?i)a": 2, "(?I:a)": 2, "(? i:a)": 2, "(?s:a)": 2, "(?-i:a)": 2, "(?is:a)": 2, "(??": 2, "(?*": 2, "(?\u00e9": 2, "(?=a)": 2,
		"(?i:": 4, "(?i:a": 5, "(?i:a|": 6, "(?i:a))": 6,
		"a(?": 3, "(a(?i": 4, "\u00e9(?x": 4,
	}.expect(t, nil)
}

// TestTooDeep: twenty brackets may be within one another, whichever they are; those side by side, and those that are no brackets, don't count.
func TestTooDeep(t *testing.T) {
	opened := func(n int) string { return strings.Repeat("(", n) }
	closed := func(n int) string { return strings.Repeat(")", n) }
	expectNode(t, opened(20)+"a"+closed(20), nil, a)
	expectNode(t, opened(20)+closed(20), nil, empty)
	expectNode(t, opened(20)+`[(][(\(]\(`+closed(20), nil, cat(one('('), one('('), one('(')))
	expectNode(t, strings.Repeat("(?i:", 20)+"1"+closed(20), nil, one('1'))
	expectNode(t, strings.Repeat("(?i:(", 10)+"1"+closed(20), nil, one('1'))
	expectNode(t, opened(19)+"(a)(b)(c)"+closed(19), nil, cat(a, b, c))
	expectNode(t, strings.Repeat("(a)", 66), nil, cat(slices.Repeat([]api.Node{a}, 66)...))
	for _, s := range []string{opened(21), opened(21) + "a" + closed(21), opened(200), opened(20) + "()" + closed(20), opened(20) + "(?i:", opened(20) + "(?x", opened(20) + "(?", opened(20) + "(*)"} {
		expectFault(t, s, nil, api.ErrDeep, 20)
	}
	expectFault(t, strings.Repeat("(?i:", 21), nil, api.ErrDeep, 80)
	expectFault(t, opened(10)+strings.Repeat("(?i:", 10)+"a|b*(", nil, api.ErrDeep, 54)
	expectFault(t, opened(20)+"a"+closed(20)+opened(21), nil, api.ErrDeep, 61)
	expectFault(t, opened(20)+"\u00e9(", nil, api.ErrDeep, 22)
	expectFault(t, opened(20)+")a*|("+closed(3)+opened(4), nil, api.ErrDeep, 20+5+3+3)
	expectFault(t, opened(20), nil, api.ErrForm, 20)
	expectFault(t, opened(20)+"{"+closed(20), nil, api.ErrForm, 21)
}

// TestTooLong: a text of too many bytes is told ahead of all that is wrong with it, at its beginning.
func TestTooLong(t *testing.T) {
	for _, s := range []string{
		strings.Repeat("a", 201), strings.Repeat(")", 201), strings.Repeat("\xff", 201), strings.Repeat("\u00e9", 101), strings.Repeat("(", 201), strings.Repeat("a", 200) + "\xff", strings.Repeat("\U0001f600", 51), strings.Repeat("a", 1<<20), strings.Repeat("{X}", 67),
	} {
		expectFault(t, s, nil, api.ErrLong, 0)
	}
	expectFault(t, strings.Repeat("a", 199)+")", nil, api.ErrForm, 199)
	expectFault(t, strings.Repeat("a", 199)+"(", nil, api.ErrForm, 200)
}

// TestBytesOfNoScalar: they are told ahead of all else that is wrong, at the first of them.
func TestBytesOfNoScalar(t *testing.T) {
	misplaced{
		"\xff": 0, "a\xff": 1, ")\xff": 1, "*(\x80": 2, "a{21}\xc0\x80": 5, "{X}\xed\xa0\x80": 3, "\u00e9\xe2\x82": 2, "\xe2\x82a": 0, "[\xf5]": 1, `\p{` + "\xff}": 3, `\p{none}` + "\xff": 8,
		strings.Repeat("(", 21) + "\xff": 21, strings.Repeat("a", 199) + "\xff": 199, strings.Repeat("a", 199) + "\xe2": 199, "\xf4\x90\x80\x80": 0, "a\xff\xff": 1, "\\\xff": 1, "(?\xff": 2,
	}.expect(t, nil)
}

// TestFirstFault: of several faults the one is told that is first, from the front on, whichever comes later.
func TestFirstFault(t *testing.T) {
	type fault struct {
		s string
		e api.Errno
	}
	faults := []fault{{"b{21}", api.ErrLong}, {"{X}", api.ErrName}, {`\p{no}`, api.ErrName}, {`\x{d800}`, api.ErrForm}, {"[b-a]", api.ErrForm}, {`\q`, api.ErrForm}, {"*", api.ErrForm}}
	places := map[string]int{"b{21}": 2, "[b-a]": 1, `\q`: 1}
	for _, f := range faults {
		for _, g := range faults {
			for _, front := range []string{"", "a|", "(", "(?i:", "{D}|", "\u00e9|("} {
				expectFault(t, front+f.s+g.s, definitions(), f.e, len(front)+places[f.s])
				expectFault(t, front+f.s+")"+g.s, definitions(), f.e, len(front)+places[f.s])
			}
		}
	}
}
