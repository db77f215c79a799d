package seqs_test

import (
	"slices"
	"testing"

	"glyphcutter/api"
	"glyphcutter/seqs"
	"glyphcutter/set"
)

// cut is the chapter's own words for CUT, of a part from a to b with n bytes.
func cut(a, b, n int) [][]api.Range {
	m := 1
	for k := 1; k <= n-1; k++ {
		m *= 64
		if a/m != b/m {
			if a%m != 0 {
				next := a - a%m + m
				return append(cut(a, next-1, n), cut(next, b, n)...)
			} else if b%m != m-1 {
				last := b - b%m
				return append(cut(a, last-1, n), cut(last, b, n)...)
			}
		}
	}
	from, to := string(rune(a)), string(rune(b))
	var row []api.Range
	for i := range n {
		row = append(row, api.Range{Lo: from[i], Hi: to[i]})
	}
	return [][]api.Range{row}
}

// rowsInWords are the chapter's own words for Of.
func rowsInWords(l []api.Span) [][]api.Range {
	var out [][]api.Range
	for _, s := range set.Norm(l) {
		for lo := s.Lo; lo <= s.Hi; {
			hi := s.Hi
			for _, last := range []int{0xffff, 0x7ff, 0x7f} {
				if lo <= last && last < hi {
					hi = last
				}
			}
			out = append(out, cut(lo, hi, len(string(rune(lo))))...)
			lo = hi + 1
		}
	}
	return out
}

// edges are numbers at which something changes, and those beside them.
func edges() []int {
	var out []int
	for _, r := range []int{
		0, 0x41, 0x80, 0xc0, 0x100, 0x7c0, 0x800, 0x840, 0xfc0, 0x1000, 0x1040, 0x2000, 0xd000, 0xd7c0, 0xd800, 0xe000, 0xe040, 0xf000, 0xffc0,
		0x10000, 0x10040, 0x11000, 0x12345, 0x40000, 0x40040, 0x41000, 0x80000, 0x100000, 0x101000, 0x10f000, 0x10ffc0, 0x110000,
	} {
		out = append(out, r-1, r, r+1)
	}
	return out
}

// expectRows holds Of against the words, and against what must hold of its rows.
func expectRows(t *testing.T, l []api.Span) {
	t.Helper()
	rows := seqs.Of(l)
	if got, want := tell(rows), tell(rowsInWords(l)); got != want {
		t.Fatalf("Of of %x: %s, want %s", l, got, want)
	}
	if got, want := seqs.Count(rows), set.Size(l); got != want {
		t.Fatalf("Of of %x: %d rows of bytes, want %d", l, got, want)
	}
}

// TestEdges holds all spans between edges against the words, wrong ones too: none may panic (T8).
func TestEdges(t *testing.T) {
	at := edges()
	for _, lo := range at {
		for _, hi := range at {
			l := spans(lo, hi)
			expectRows(t, l)
			rows := seqs.Of(l)
			for _, r := range at {
				if r >= 0 && (r < 0xd800 || r > 0xdfff) && r <= 0x10ffff && seqs.Match(rows, []byte(string(rune(r)))) != (lo <= r && r <= hi) {
					t.Fatalf("Match of rows of %x, by %x", l, r)
				}
			}
		}
	}
}

// picker draws numbers in one order that is the same each time.
type picker uint32

func (p *picker) below(n int) int {
	*p = *p*1664525 + 1013904223
	return int(*p>>8) % n
}

// list is some spans of any lengths, near edges or anywhere.
func (p *picker) list(at []int) []api.Span {
	var out []api.Span
	for range p.below(7) {
		lo := p.below(0x110100)
		if p.below(2) == 0 {
			lo = at[p.below(len(at))]
		}
		hi := lo + p.below(1<<p.below(20))
		if p.below(4) == 0 {
			hi = at[p.below(len(at))]
		}
		out = append(out, api.Span{Lo: lo, Hi: hi})
	}
	return out
}

// TestManySpans holds lists of some spans against the words.
func TestManySpans(t *testing.T) {
	at := edges()
	p := picker(1)
	for range 20000 {
		expectRows(t, p.list(at))
	}
}

// TestEveryScalar: rows have each scalar of the set, in one row alone, and no other bytes (for as many are counted as are found).
func TestEveryScalar(t *testing.T) {
	for _, l := range [][]api.Span{
		spans(0, 0x10ffff),
		spans(0x61, 0x7a, 0xe9, 0x123, 0x7f0, 0x80f, 0x1234, 0x5678, 0xd7f0, 0xe00f, 0xfff0, 0x1000f, 0x12345, 0xabcde, 0x10fff0, 0x10ffff),
		spans(0x81, 0x7fe, 0x801, 0xfffe, 0x10001, 0x10fffe),
	} {
		rows := seqs.Of(l)
		found := 0
		for r := range 0x110000 {
			if r >= 0xd800 && r <= 0xdfff {
				continue
			}
			n := 0
			for _, row := range rows {
				if seqs.Match([][]api.Range{row}, []byte(string(rune(r)))) {
					n++
				}
			}
			if has := set.Has(l, r); n > 1 || (n == 1) != has || seqs.Match(rows, []byte(string(rune(r)))) != has {
				t.Fatalf("%x is in %d rows of %x", r, n, l)
			}
			found += n
		}
		if got := seqs.Count(rows); got != found {
			t.Errorf("Count of %x: %d, want %d", l, got, found)
		}
	}
}

// TestNoScalarsBytes: rows of all scalars are matched by no bytes that are no scalar's.
func TestNoScalarsBytes(t *testing.T) {
	rows := seqs.Of(spans(0, 0x10ffff))
	for _, b := range []string{
		"", "\x80", "\xbf", "\xc0", "\xff", "\xc2", "\xc0\x80", "\xc1\xbf", "\xc2A", "\xe2\x82", "\xe0\x80\x80", "\xe0\x9f\xbf", "\xed\xa0\x80", "\xed\xbf\xbf",
		"\xe2\x82A", "\xf0\x9f\x98", "\xf0\x80\x80\x80", "\xf0\x8f\xbf\xbf", "\xf4\x90\x80\x80", "\xf5\x80\x80\x80", "\xf8\x88\x80\x80\x80", "AA", "A\xc2\x80", "\xc2\x80A",
	} {
		if seqs.Match(rows, []byte(b)) {
			t.Errorf("Match of % x", b)
		}
	}
}

// TestRowsRise: each row's bytes lie above all of those ahead of it of as many bytes, and none has fewer bytes than one ahead of it.
func TestRowsRise(t *testing.T) {
	at := edges()
	p := picker(7)
	for range 2000 {
		rows := seqs.Of(p.list(at))
		for i := 1; i < len(rows); i++ {
			var last, first []byte
			for _, r := range rows[i-1] {
				last = append(last, r.Hi)
			}
			for _, r := range rows[i] {
				first = append(first, r.Lo)
			}
			if slices.Compare(last, first) >= 0 || len(last) > len(first) {
				t.Fatalf("%s do not rise", tell(rows))
			}
		}
	}
}

// TestLongLists: a list may be longer than any limit of a set's spans.
func TestLongLists(t *testing.T) {
	const n = 100000
	var apart []api.Span
	for i := n - 1; i >= 0; i-- {
		apart = append(apart, api.Span{Lo: 0xe000 + 2*i, Hi: 0xe000 + 2*i})
	}
	rows := seqs.Of(apart)
	if len(rows) != n || seqs.Count(rows) != n || tell(rows[:1]) != "ee 80 80" {
		t.Errorf("%d rows, want %d", len(rows), n)
	}
}
