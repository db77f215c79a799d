package least_test

import (
	"fmt"
	"math"
	"slices"
	"strconv"
	"strings"
	"testing"

	"glyphcutter/api"
	"glyphcutter/dfa"
	"glyphcutter/least"
	"glyphcutter/nfa"
	"glyphcutter/rx"
)

// spans takes Lo and Hi in turn.
func spans(n ...int) []api.Span {
	var out []api.Span
	for i := 0; i+1 < len(n); i += 2 {
		out = append(out, api.Span{Lo: n[i], Hi: n[i+1]})
	}
	return out
}

// letters is a set written as letters with commas between, or two with a stroke: "a,c-e"; "-" is a set of none.
func letters(s string) []api.Span {
	if s == "-" {
		return nil
	}
	var out []api.Span
	for _, part := range strings.Split(s, ",") {
		out = append(out, api.Span{Lo: int(part[0]), Hi: int(part[len(part)-1])})
	}
	return out
}

// number is that of a text.
func number(t *testing.T, s string) int {
	t.Helper()
	k, err := strconv.Atoi(s)
	if err != nil {
		t.Fatal(err)
	}
	return k
}

// one is a machine: its parts, and a text for each state: where it goes by each part, "." for nowhere; the tag behind "#".
func one(t *testing.T, parts string, states ...string) api.Dfa {
	t.Helper()
	var d api.Dfa
	for _, part := range strings.Fields(parts) {
		d.Parts = append(d.Parts, letters(part))
	}
	for i, state := range states {
		d.Next = append(d.Next, nil)
		d.Tags = append(d.Tags, -1)
		for _, to := range strings.Fields(state) {
			switch {
			case to[0] == '#':
				d.Tags[i] = number(t, to[1:])
			case to == ".":
				d.Next[i] = append(d.Next[i], -1)
			default:
				d.Next[i] = append(d.Next[i], number(t, to))
			}
		}
	}
	if !dfa.Sound(d) {
		t.Fatalf("not Sound: %q, %q", parts, states)
	}
	return d
}

// same says whether two machines are alike, lists that are nil and empty ones too.
func same(x, y api.Dfa) bool {
	return slices.EqualFunc(x.Parts, y.Parts, slices.Equal[[]api.Span]) && slices.EqualFunc(x.Next, y.Next, slices.Equal[[]int]) && slices.Equal(x.Tags, y.Tags)
}

// brief is a value as a text that is not very long.
func brief(x any) string {
	s := fmt.Sprint(x)
	return s[:min(len(s), 2000)]
}

// expectOf asks for a whole machine, which is least itself.
func expectOf(t *testing.T, what string, d, want api.Dfa) {
	t.Helper()
	for _, m := range []api.Dfa{d, want} {
		if got, e := least.Of(m); e != api.OK || !same(got, want) {
			t.Errorf("%s: of %s: %d, %s, want %s", what, brief(m), e, brief(got), brief(want))
		}
	}
	if !dfa.Sound(want) {
		t.Errorf("%s: not Sound", what)
	}
}

// expectError asks for ErrArg, and for nothing beside it.
func expectError(t *testing.T, what string, d api.Dfa) {
	t.Helper()
	if m, e := least.Of(d); e != api.ErrArg || len(m.Parts)+len(m.Next)+len(m.Tags) > 0 {
		t.Errorf("%s: %d, %s, want ErrArg", what, e, brief(m))
	}
}

// patterns is the machine of some patterns, as it is made.
func patterns(t *testing.T, texts ...string) api.Dfa {
	t.Helper()
	var l []api.Node
	for _, s := range texts {
		n, e, at := rx.Parse(s, nil)
		if e != api.OK {
			t.Fatalf("%q: %d, %d", s, e, at)
		}
		l = append(l, n)
	}
	n, e := nfa.Build(l)
	if e != api.OK {
		t.Fatalf("%q: %d", texts, e)
	}
	d, e := dfa.Of(n, api.MaxStates)
	if e != api.OK {
		t.Fatalf("%q: %d", texts, e)
	}
	return d
}

func TestExample(t *testing.T) {
	expectOf(t, "ab|cb", patterns(t, "ab|cb"), one(t, "a,c b", "1 .", ". 2", ". . #0"))
}

// TestStates: which states are one, which are left out, and how they are numbered.
func TestStates(t *testing.T) {
	for _, c := range []struct {
		what string
		d    api.Dfa
		want api.Dfa
	}{
		{"one state", one(t, "", ""), one(t, "", "")},
		{"one state with a tag", one(t, "", "#7"), one(t, "", "#7")},
		{"one state that leads to itself", one(t, "a", "0 #0"), one(t, "a", "0 #0")},
		{"alike at once", one(t, "a b", "1 2", ". . #3", ". . #3"), one(t, "a-b", "1", ". #3")},
		{"another tag", one(t, "a b", "1 2", ". . #3", ". . #4"), one(t, "a b", "1 2", ". . #3", ". . #4")},
		{"the tag 0 is a tag", one(t, "a b", "1 2 #0", ". 3", ". 3 #0", ". . #0"), one(t, "a b", "1 2 #0", ". 3", ". 3 #0", ". . #0")},
		{"state 0 is one of some that are alike", one(t, "a", "1 #2", "2 #2", "0 #2"), one(t, "a", "0 #2")},
		{"a ring of six, of two", one(t, "a", "1 #0", "2", "3 #0", "4", "5 #0", "0"), one(t, "a", "1 #0", "0")},
		{"a ring of six, of three", one(t, "a", "1 #0", "2", "3", "4 #0", "5", "0"), one(t, "a", "1 #0", "2", "0")},
		{"a ring of six, of six", one(t, "a", "1 #0", "2", "3", "4 #0", "5", "0 #1"), one(t, "a", "1 #0", "2", "3", "4 #0", "5", "0 #1")},
		{"far ahead of what tells them apart", one(t, "a b", "1 4", "2 .", "3 .", ". . #1", "5 .", "6 .", ". . #2"), one(t, "a b", "1 2", "3 .", "4 .", "5 .", "6 .", ". . #1", ". . #2")},
		{"far ahead of what is alike", one(t, "a b", "1 4", "2 .", "3 .", ". . #1", "5 .", "6 .", ". . #1"), one(t, "a b", "1 1", "2 .", "3 .", ". . #1")},
		{"leading nowhere is not leading somewhere", one(t, "a b", "1 2", ". 2 #0", "1 2 #0"), one(t, "a b", "1 2", ". 2 #0", "1 2 #0")},
		{"alike, if each leads to the other", one(t, "a b", "1 2", "2 1 #0", "1 2 #0"), one(t, "a-b", "1", "1 #0")},
		{"not come to", one(t, "a", "0 #1", "2 #2", "0 #3"), one(t, "a", "0 #1")},
		{"not come to, and alike to what is", one(t, "a b", "2 .", ". . #0", ". . #0"), one(t, "a", "1", ". #0")},
		{"not come to, and ahead of all that are", one(t, "a b", "3 .", "0 1 #1", "2 2 #5", ". 3 #0"), one(t, "a b", "1 .", ". 1 #0")},
		{"state by state", one(t, "a b", "3 1", ". 2", ". . #0", "4 .", ". . #1"), one(t, "a b", "1 2", "3 .", ". 4", ". . #1", ". . #0")},
		{"back to 0", one(t, "a b", "2 .", ". 0 #1", "1 ."), one(t, "a b", "1 .", "2 .", ". 0 #1")},
	} {
		expectOf(t, c.what, c.d, c.want)
	}
}

// TestDead: what leads to no tag any more is nowhere, but state 0, from which nothing leads anywhere then.
func TestDead(t *testing.T) {
	none := one(t, "", "")
	for _, c := range []struct {
		what string
		d    api.Dfa
		want api.Dfa
	}{
		{"by itself", one(t, "a", "."), none},
		{"to itself", one(t, "a", "0"), none},
		{"to another one and back", one(t, "a b", "1 0", "0 1"), none},
		{"to another one that stays", one(t, "a b", "1 .", "1 ."), none},
		{"tags that are not come to", one(t, "a b", "1 .", "0 .", "0 1 #1"), none},
		{"a tag by a part of no scalar", one(t, "- a", "1 0", ". . #1"), none},
		{"another one is nowhere", one(t, "a b", "1 2", ". . #0", "2 2"), one(t, "a", "1", ". #0")},
		{"two others are nowhere", one(t, "a b", "1 2", "3 . #0", "2 3", "2 ."), one(t, "a", "1", ". #0")},
		{"behind a tag", one(t, "a", "1 #4", "1"), one(t, "", "#4")},
		{"a state without a tag that leads to one is not dead", one(t, "a", "1", "2", "3", ". #0"), one(t, "a", "1", "2", "3", ". #0")},
		{"nor one that leads to one by one way of many", one(t, "a b c", "1 . .", "2 0 1", "2 2 3", ". . . #0"), one(t, "a b c", "1 . .", "2 0 1", "2 2 3", ". . . #0")},
		{"nor state 0", one(t, "a b", "0 1", ". 2", ". . #0"), one(t, "a b", "0 1", ". 2", ". . #0")},
		{"a dead way tells nothing apart", one(t, "a b", "1 2", ". 3 #0", ". . #0", "3 3"), one(t, "a-b", "1", ". #0")},
		{"all ways but one", one(t, "a b c", "3 3 1", "3 2 3", "3 3 3 #9", "3 . 3"), one(t, "b c", ". 1", "2 .", ". . #9")},
	} {
		expectOf(t, c.what, c.d, c.want)
	}
}

// TestParts: which parts are put together, which are left out, and in what order they stand; and by these states are numbered.
func TestParts(t *testing.T) {
	for _, c := range []struct {
		what string
		d    api.Dfa
		want api.Dfa
	}{
		{"apart", one(t, "a c", "1 1", ". . #0"), one(t, "a,c", "1", ". #0")},
		{"touching", one(t, "a b", "1 1", ". . #0"), one(t, "a-b", "1", ". #0")},
		{"within one another", one(t, "a,c-d,g b,e-f", "1 1", ". . #0"), one(t, "a-g", "1", ". #0")},
		{"from some states only to the same", one(t, "a b", "1 1", "1 0 #0"), one(t, "a b", "1 1", "1 0 #0")},
		{"to two that are alike", one(t, "a b c", "1 2 .", "1 . 3", "1 . 4", ". . . #0", ". . . #0"), one(t, "a b c", "1 1 .", "1 . 2", ". . . #0")},
		{"to two that are alike, from all", one(t, "a b c", "1 2 .", "1 2 3", "2 1 4", ". . . #0", ". . . #0"), one(t, "a-b c", "1 .", "1 2", ". . #0")},
		{"of three the first and the last", one(t, "a b c", "1 0 1", ". . . #0"), one(t, "a,c b", "1 0", ". . #0")},
		{"rising", one(t, "c b a", ". 1 2", "1 0 . #5", ". . . #6"), one(t, "a b c", "1 2 .", ". . . #6", ". 0 2 #5")},
		{"by the least scalars", one(t, "c,x b,y", "1 2", ". . #5", ". . #6"), one(t, "b,y c,x", "1 2", ". . #6", ". . #5")},
		{"by the least scalars of what is put together", one(t, "b c a", "1 2 2", ". . . #5", ". . . #6"), one(t, "a,c b", "1 2", ". . #6", ". . #5")},
		{"numbered by what is put together, not as they stood", one(t, "b c d a", "1 2 3 3", ". . . . #5", ". . . . #6", ". . . . #7"), one(t, "a,d b c", "1 2 3", ". . . #7", ". . . #5", ". . . #6")},
		{"leading nowhere", one(t, "a b", "1 .", ". . #0"), one(t, "a", "1", ". #0")},
		{"leading from states that are not come to", one(t, "a b", "1 .", ". . #0", "1 1"), one(t, "a", "1", ". #0")},
		{"not the same from a state that is not come to", one(t, "a b", "1 1", ". . #0", "1 0"), one(t, "a-b", "1", ". #0")},
		{"not the same from a dead state", one(t, "a b c", "1 1 2", ". . . #0", "2 . 2"), one(t, "a-b", "1", ". #0")},
		{"leading to dead states only, in unlike ways", one(t, "a b c", "2 . 1", ". 2 . #0", "2 . 2"), one(t, "c", "1", ". #0")},
		{"of no scalar", one(t, "-", "0 #3"), one(t, "", "#3")},
		{"of no scalar, among others", one(t, "- b - a -", "1 2 0 1 2", ". . . . . #1", "2 1 0 2 0 #2"), one(t, "a b", "1 2", ". . #1", "2 1 #2")},
		{"of no scalar, the only one that tells states apart", one(t, "a - b", "1 1 2", ". 0 . #0", ". . . #0"), one(t, "a-b", "1", ". #0")},
		{"of no scalar, the only one that leads on", one(t, "a -", "1 1", ". 2", ". . #0"), one(t, "", "")},
		{"of no scalar, the only one by which a state is come to", one(t, "a - b", "1 2 .", ". . . #0", "1 1 1 #1"), one(t, "a", "1", ". #0")},
		{"of no scalar, together with another one", one(t, "- a", "1 1", ". . #0"), one(t, "a", "1", ". #0")},
	} {
		expectOf(t, c.what, c.d, c.want)
	}
}

// TestTags: a tag may be any number from 0 on, and two are alike only if they are the same one.
func TestTags(t *testing.T) {
	tags := []int{0, 1, 10, 11, 100, 101, 255, 256, 257, 65535, 65536, 1 << 32, 1<<32 + 1, math.MaxInt - 1, math.MaxInt}
	for _, x := range tags {
		for _, y := range tags {
			d := one(t, "a b", "1 2", ". .", ". .")
			d.Tags[1], d.Tags[2] = x, y
			want := d
			if x == y {
				want = one(t, "a-b", "1", ".")
				want.Tags[1] = x
			}
			expectOf(t, "two tags", d, want)
		}
		d := one(t, "a", "1", ".")
		d.Tags = []int{x, -1}
		want := one(t, "", "")
		want.Tags[0] = x
		expectOf(t, "one tag, and none", d, want)
	}
}

// TestPartsAtEnds: parts at the ends of the scalars; no span goes over the surrogates.
func TestPartsAtEnds(t *testing.T) {
	low, high := spans(0, 0xd7ff), spans(0xe000, 0x10ffff)
	expectOf(t, "all scalars", api.Dfa{
		Parts: [][]api.Span{high, low},
		Next:  [][]int{{1, 1}, {-1, -1}},
		Tags:  []int{-1, 0},
	}, api.Dfa{
		Parts: [][]api.Span{spans(0, 0xd7ff, 0xe000, 0x10ffff)},
		Next:  [][]int{{1}, {-1}},
		Tags:  []int{-1, 0},
	})
	expectOf(t, "many spans", api.Dfa{
		Parts: [][]api.Span{spans(1, 4, 6, 6, 0xe001, 0x10fffe), spans(7, 7, 0xd7ff, 0xd7ff), spans(0, 0, 5, 5, 0xe000, 0xe000, 0x10ffff, 0x10ffff)},
		Next:  [][]int{{2, 1, 2}, {2, 1, 2}, {2, 2, 2}},
		Tags:  []int{-1, 4, 5},
	}, api.Dfa{
		Parts: [][]api.Span{spans(0, 6, 0xe000, 0x10ffff), spans(7, 7, 0xd7ff, 0xd7ff)},
		Next:  [][]int{{1, 2}, {1, 1}, {1, 2}},
		Tags:  []int{-1, 5, 4},
	})
}

// TestPatterns: of the document's own patterns.
func TestPatterns(t *testing.T) {
	digits := one(t, ". 0-9", ". 1", "2 1 #0", ". 3", ". 3 #1")
	expectOf(t, "numbers", patterns(t, "[0-9]+", "[0-9]+[.][0-9]+"), digits)
	expectOf(t, "a word and a name", patterns(t, "if", "[a-z]+"), one(t, "a-e,g-h,j-z f i", "1 1 2", "1 1 1 #1", "1 3 1 #1", "1 1 1 #0"))
	expectOf(t, "two names", patterns(t, "[a-z]+", "if"), one(t, "a-z", "1", "1 #0"))
	expectOf(t, "a and a*", patterns(t, "a", "a*"), one(t, "a", "1 #1", "2 #0", "2 #1"))
	expectOf(t, "nothing", patterns(t, "()"), one(t, "", "#0"))
	expectOf(t, "no scalar", patterns(t, `[^\x{0}-\x{10ffff}]`), one(t, "", ""))
	expectOf(t, "a, but then no scalar", patterns(t, `a*[^\x{0}-\x{10ffff}]`), one(t, "", ""))
}

// TestPatternsAlike: patterns that tell the same have the same least machine.
func TestPatternsAlike(t *testing.T) {
	for _, l := range [][]string{
		{"ab|cb", "[ac]b", "(a|c)b", "cb|ab|cb"},
		{"a*", "(a*)*", "a*a*", "()|a+", "(aa)*|a(aa)*", "(a{3})*(a|aa|())", "a{0,}"},
		{"(a|b)*", "(a*b*)*", "(a*b)*a*", "()|[ab]+", "(b|a(a|b)*)*"},
		{"a{2,4}", "aa(a?)(a?)", "aa|aaa|aaaa", "a(a|aa|aaa)", "(aa){1,2}|aaa"},
		{"(a|b)*abb", "(a*b*)*abb|abb", "[ab]*[a]b{2}", "b*(a+b+)*a*abb"},
		{"[a-z]+", "[a-m]([a-z]*)|[n-z]([a-z]*)", "([a-m]|[n-z])+", "[a-z]*[a-z]"},
	} {
		want, e := least.Of(patterns(t, l[0]))
		if e != api.OK {
			t.Fatalf("%s: %d", l[0], e)
		}
		for _, s := range l {
			expectOf(t, s, patterns(t, s), want)
		}
	}
}
