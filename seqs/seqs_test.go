package seqs_test

import (
	"bytes"
	"math"
	"strconv"
	"strings"
	"testing"

	"glyphcutter/api"
	"glyphcutter/seqs"
)

// spans takes Lo and Hi in turn.
func spans(n ...int) []api.Span {
	var out []api.Span
	for i := 0; i+1 < len(n); i += 2 {
		out = append(out, api.Span{Lo: n[i], Hi: n[i+1]})
	}
	return out
}

// tell writes rows as the chapter's examples do: e0 a0-bf; 41.
func tell(rows [][]api.Range) string {
	hex := func(b uint8) string { return strconv.FormatInt(int64(b)+0x100, 16)[1:] }
	var all []string
	for _, row := range rows {
		var one []string
		for _, r := range row {
			if r.Lo == r.Hi {
				one = append(one, hex(r.Lo))
			} else {
				one = append(one, hex(r.Lo)+"-"+hex(r.Hi))
			}
		}
		all = append(all, strings.Join(one, " "))
	}
	return strings.Join(all, "; ")
}

// rowsOf takes Lo and Hi in turn, one list a row.
func rowsOf(l ...[]byte) [][]api.Range {
	var out [][]api.Range
	for _, b := range l {
		row := []api.Range{}
		for i := 0; i+1 < len(b); i += 2 {
			row = append(row, api.Range{Lo: b[i], Hi: b[i+1]})
		}
		out = append(out, row)
	}
	return out
}

const (
	below     = "00-7f; c2-df 80-bf; e0 a0-bf 80-bf; e1-ec 80-bf 80-bf; ed 80-9f 80-bf"
	above     = "ee-ef 80-bf 80-bf; f0 90-bf 80-bf 80-bf; f1-f3 80-bf 80-bf 80-bf; f4 80-8f 80-bf 80-bf"
	ofThree   = "e0 a0-bf 80-bf; e1-ec 80-bf 80-bf; ed 80-9f 80-bf; ee-ef 80-bf 80-bf"
	ofFour    = "f0 90-bf 80-bf 80-bf; f1-f3 80-bf 80-bf 80-bf; f4 80-8f 80-bf 80-bf"
	mostCut   = "f0 90 80 81-bf; f0 90 81-bf 80-bf; f0 91-bf 80-bf 80-bf; f1-f3 80-bf 80-bf 80-bf; "
	mostCutTo = "f4 80-8e 80-bf 80-bf; f4 8f 80-be 80-bf; f4 8f bf 80-be"
)

func TestOf(t *testing.T) {
	for _, c := range []struct {
		what string
		l    []api.Span
		want string
	}{
		{"the first example", spans(0x7f, 0x80), "7f; c2 80"},
		{"the second example", spans(0x800, 0xffff), ofThree},
		{"all", spans(0, 0x10ffff), below + "; " + above},
		{"all numbers", spans(math.MinInt, math.MaxInt), below + "; " + above},
		{"one byte", spans(0x41, 0x5a), "41-5a"},
		{"one byte, over a multiple of 64", spans(0x3e, 0x41), "3e-41"},
		{"two bytes, all", spans(0x80, 0x7ff), "c2-df 80-bf"},
		{"two bytes, in one block", spans(0xc1, 0xfe), "c3 81-be"},
		{"two bytes, whole blocks", spans(0xc0, 0x17f), "c3-c5 80-bf"},
		{"two bytes, cut in front", spans(0x81, 0x7ff), "c2 81-bf; c3-df 80-bf"},
		{"two bytes, cut behind", spans(0x80, 0x7fe), "c2-de 80-bf; df 80-be"},
		{"two bytes, cut twice", spans(0x81, 0x7fe), "c2 81-bf; c3-de 80-bf; df 80-be"},
		{"two bytes, cut between blocks", spans(0xff, 0x100), "c3 bf; c4 80"},
		{"three bytes, cut by 64 and by 4096", spans(0x1001, 0x2fff), "e1 80 81-bf; e1 81-bf 80-bf; e2 80-bf 80-bf"},
		{"three bytes, cut behind by both", spans(0x1000, 0x2ffe), "e1 80-bf 80-bf; e2 80-be 80-bf; e2 bf 80-be"},
		{"three bytes, cut between blocks", spans(0x1fff, 0x2000), "e1 bf bf; e2 80 80"},
		{"four bytes, all", spans(0x10000, 0x10ffff), ofFour},
		{"four bytes, cut by all", spans(0x10001, 0x10fffe), mostCut + mostCutTo},
		{"four bytes, cut between blocks", spans(0x3ffff, 0x40000), "f0 bf bf bf; f1 80 80 80"},
		{"all lengths", spans(0x7f, 0x10000), "7f; c2-df 80-bf; " + ofThree + "; f0 90 80 80"},
		{"spans that fall and touch", spans(0x62, 0x7a, 0x61, 0x61), "61-7a"},
		{"spans that lie apart", spans(0xe9, 0xe9, 0x61, 0x61), "61; c3 a9"},
		{"a wrong span beside a right one", spans(9, 8, 0x41, 0x41), "41"},
	} {
		if got := tell(seqs.Of(c.l)); got != c.want {
			t.Errorf("%s: %s, want %s", c.what, got, c.want)
		}
	}
}

func TestOfNoScalar(t *testing.T) {
	for _, l := range [][]api.Span{
		nil, {}, spans(5, 4), spans(0x10ffff, 0), spans(math.MaxInt, math.MinInt), spans(math.MinInt, -1), spans(-1, -1),
		spans(0xd800, 0xdfff), spans(0xd800, 0xd800, 0xdfff, 0xdfff), spans(0x110000, math.MaxInt), spans(0xe000, 0xd7ff),
	} {
		if got := seqs.Of(l); len(got) != 0 {
			t.Errorf("Of of %x: %s, want nothing", l, tell(got))
		}
	}
}

func TestOfOneScalar(t *testing.T) {
	for r, want := range map[int]string{
		0: "00", 0x41: "41", 0x7f: "7f", 0x80: "c2 80", 0xe9: "c3 a9", 0x7ff: "df bf", 0x800: "e0 a0 80", 0x20ac: "e2 82 ac",
		0xd7ff: "ed 9f bf", 0xe000: "ee 80 80", 0xffff: "ef bf bf", 0x10000: "f0 90 80 80", 0x1f600: "f0 9f 98 80", 0x10ffff: "f4 8f bf bf",
	} {
		if got := tell(seqs.Of(spans(r, r))); got != want {
			t.Errorf("Of of %x alone: %s, want %s", r, got, want)
		}
	}
}

func TestOfOverTheSurrogates(t *testing.T) {
	for _, c := range []struct {
		l    []api.Span
		want string
	}{
		{spans(0xd7ff, 0xe000), "ed 9f bf; ee 80 80"},
		{spans(0xd7ff, 0xd800), "ed 9f bf"},
		{spans(0xdfff, 0xe000), "ee 80 80"},
		{spans(0xd7be, 0xe041), "ed 9e be-bf; ed 9f 80-bf; ee 80 80-bf; ee 81 80-81"},
		{spans(0xd000, 0xefff), "ed 80-9f 80-bf; ee 80-bf 80-bf"},
		{spans(0xd7ff, 0xd7ff, 0xd800, 0xdfff, 0xe000, 0xe000), "ed 9f bf; ee 80 80"},
	} {
		if got := tell(seqs.Of(c.l)); got != c.want {
			t.Errorf("Of of %x: %s, want %s", c.l, got, c.want)
		}
	}
}

// TestOfAtTheEndsOfLengths: a span over such an end is cut there, also where no other cut would part it.
func TestOfAtTheEndsOfLengths(t *testing.T) {
	for _, c := range []struct {
		l    []api.Span
		want string
	}{
		{spans(0x7f, 0x7f, 0x80, 0x80), "7f; c2 80"},
		{spans(0, 0x80), "00-7f; c2 80"},
		{spans(0x7ff, 0x800), "df bf; e0 a0 80"},
		{spans(0x7fe, 0x801), "df be-bf; e0 a0 80-81"},
		{spans(0x7c0, 0x83f), "df 80-bf; e0 a0 80-bf"},
		{spans(0xffff, 0x10000), "ef bf bf; f0 90 80 80"},
		{spans(0xffc0, 0x1003f), "ef bf 80-bf; f0 90 80 80-bf"},
		{spans(0xf000, 0x10fff), "ef 80-bf 80-bf; f0 90 80-bf 80-bf"},
		{spans(0x10ffff, 0x110000), "f4 8f bf bf"},
		{spans(-1, 0), "00"},
	} {
		if got := tell(seqs.Of(c.l)); got != c.want {
			t.Errorf("Of of %x: %s, want %s", c.l, got, c.want)
		}
	}
}

func TestMatch(t *testing.T) {
	rows := rowsOf([]byte{0x41, 0x5a}, []byte{0xc3, 0xc5, 0x80, 0xbf}, []byte{0, 0xff, 7, 7, 0xff, 0xff}, []byte{9, 8}, []byte{1, 1, 9, 8})
	for b, want := range map[string]bool{
		"A": true, "M": true, "Z": true, "@": false, "[": false, "": false, "AA": false, "A\x80": false,
		"\xc3": false, "\xc3\x80": true, "\xc5\xbf": true, "\xc4\x9f": true, "\xc2\x80": false, "\xc6\x80": false, "\xc3\x7f": false, "\xc3\xc0": false,
		"\x00\x07\xff": true, "\xff\x07\xff": true, "\x00\x06\xff": false, "\x00\x08\xff": false, "\x00\x07\xfe": false, "\x00\x07\xff\x00": false,
		"\x08": false, "\x09": false, "\x01\x08": false, "\x01\x09": false, "\x00\x07": false,
	} {
		if got := seqs.Match(rows, []byte(b)); got != want {
			t.Errorf("Match of % x: %t", b, got)
		}
	}
}

// TestMatchOfNothing: a row without ranges matches a b of length 0, and no other; where there are no rows, no b is matched.
func TestMatchOfNothing(t *testing.T) {
	for _, none := range [][][]api.Range{nil, {}} {
		if seqs.Match(none, nil) || seqs.Match(none, []byte{}) || seqs.Match(none, []byte("a")) {
			t.Error("Match of no rows")
		}
	}
	for _, empty := range [][][]api.Range{{nil}, {{}}, rowsOf([]byte{1, 2}, nil)} {
		if !seqs.Match(empty, nil) || !seqs.Match(empty, []byte{}) || seqs.Match(empty, []byte("a")) {
			t.Errorf("Match of a row without ranges: %v", empty)
		}
	}
	if seqs.Match(rowsOf([]byte{0, 255}), nil) {
		t.Error("Match of a row of one range, by nothing")
	}
}

func TestCount(t *testing.T) {
	for _, c := range []struct {
		what string
		rows [][]api.Range
		want int
	}{
		{"nil", nil, 0},
		{"no rows", [][]api.Range{}, 0},
		{"a row without ranges", [][]api.Range{nil}, 1},
		{"two of them", [][]api.Range{{}, nil}, 2},
		{"one byte", rowsOf([]byte{7, 7}), 1},
		{"all bytes", rowsOf([]byte{0, 255}), 256},
		{"all rows of three bytes", rowsOf([]byte{0, 255, 0, 255, 0, 255}), 1 << 24},
		{"Lo above Hi", rowsOf([]byte{8, 7}), 0},
		{"Lo far above Hi", rowsOf([]byte{255, 0}), 0},
		{"two ranges with Lo above Hi", rowsOf([]byte{9, 7, 9, 7}), 0},
		{"Lo above Hi beside others", rowsOf([]byte{0, 9, 8, 7, 0, 9}), 0},
		{"products, together", rowsOf([]byte{1, 2, 1, 3}, []byte{1, 4}, nil, []byte{2, 1}), 6 + 4 + 1},
		{"the same twice", rowsOf([]byte{1, 2}, []byte{1, 2}), 4},
		{"the first example", seqs.Of(spans(0x7f, 0x80)), 2},
		{"the second example", seqs.Of(spans(0x800, 0xffff)), 61440},
		{"all scalars", seqs.Of(spans(0, 0x10ffff)), 0x110000 - 0x800},
	} {
		if got := seqs.Count(c.rows); got != c.want {
			t.Errorf("%s: %d, want %d", c.what, got, c.want)
		}
	}
}

// TestCountGrows: R8: products and what they are together are taken modulo 2^64.
func TestCountGrows(t *testing.T) {
	all := func(n int) []byte { return bytes.Repeat([]byte{0, 255}, n) }
	half := append([]byte{0, 127}, all(7)...)
	for _, c := range []struct {
		what string
		rows [][]api.Range
		want int
	}{
		{"2^56", rowsOf(all(7)), 1 << 56},
		{"2^63", rowsOf(half), math.MinInt},
		{"2^63 twice", rowsOf(half, half), 0},
		{"2^64 and 5", rowsOf(half, half, []byte{1, 5}), 5},
		{"2^64", rowsOf(all(8)), 0},
		{"2^64 and 1", rowsOf(all(8), nil), 1},
		{"255 to the eighth", rowsOf(bytes.Repeat([]byte{1, 255}, 8)), power(255, 8)},
		{"3 to the hundredth", rowsOf(bytes.Repeat([]byte{1, 3}, 100)), power(3, 100)},
	} {
		if got := seqs.Count(c.rows); got != c.want {
			t.Errorf("%s: %d, want %d", c.what, got, c.want)
		}
	}
}

// power is modulo 2^64.
func power(x uint64, n int) int {
	out := uint64(1)
	for range n {
		out *= x
	}
	return int(out)
}
