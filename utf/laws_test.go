package utf_test

import (
	"slices"
	"testing"
	"unicode/utf8"

	"glyphcutter/api"
	"glyphcutter/utf"
)

// fronts are those of all scalars' bytes, by how they may be read: a scalar, if they are all of its bytes, else api.Bad.
func fronts() map[string]int {
	out := map[string]int{}
	for r := range 0x110000 {
		if !isScalar(r) {
			continue
		}
		b := string(rune(r))
		for n := 1; n < len(b); n++ {
			out[b[:n]] = api.Bad
		}
		out[b] = r
	}
	return out
}

// decode is the chapter's own words for Decode: no scalar's bytes are a front of another one's, so the longest front tells.
func decode(known map[string]int, b []byte) (int, int) {
	for n := min(4, len(b)); n > 0; n-- {
		if r, ok := known[string(b[:n])]; ok {
			return r, n
		}
	}
	return api.Bad, min(1, len(b))
}

// TestThereAndBack: each scalar is read as what it was written from, and written as the language itself writes it.
func TestThereAndBack(t *testing.T) {
	var all []byte
	for r := range 0x110000 {
		b := utf.Encode(r)
		if !isScalar(r) {
			if len(b) != 0 {
				t.Fatalf("Encode of %x: % x", r, b)
			}
			continue
		}
		if string(b) != string(rune(r)) {
			t.Fatalf("Encode of %x: % x", r, b)
		}
		if got, n := utf.Decode(b); got != r || n != len(b) {
			t.Fatalf("Decode of % x: %x of %d", b, got, n)
		}
		all = append(all, b...)
	}
	if utf.First(all) != -1 {
		t.Error("one of all scalars is Bad")
	}
	r := 0
	for _, c := range utf.Chars(all) {
		if c.R != r {
			t.Fatalf("Chars of all scalars: %x, want %x", c.R, r)
		}
		if r++; r == 0xd800 {
			r = 0xe000
		}
	}
	if r != 0x110000 {
		t.Errorf("Chars of all scalars end ahead of %x", r)
	}
}

// TestShortRows holds all rows of one and of two bytes, and each of them with what may lie behind, against the words.
func TestShortRows(t *testing.T) {
	known := fronts()
	tails := []string{"", "\x00", "\x7f", "\x80", "\x8f", "\x90", "\x9f", "\xa0", "\xbf", "\xc0", "\xff", "\x80\x80", "\xbf\xbf", "\x80A", "\xbf\xff"}
	for a := range 256 {
		expectLaws(t, known, []byte{byte(a)})
		for b := range 256 {
			for _, tail := range tails {
				expectLaws(t, known, append([]byte{byte(a), byte(b)}, tail...))
			}
		}
	}
}

// TestEdgeRows holds all rows of three and of four bytes at which something changes against the words.
func TestEdgeRows(t *testing.T) {
	known := fronts()
	edges := []byte{0x00, 0x41, 0x7f, 0x80, 0x8f, 0x90, 0x9f, 0xa0, 0xbf, 0xc0, 0xc1, 0xc2, 0xdf, 0xe0, 0xe1, 0xec, 0xed, 0xee, 0xef, 0xf0, 0xf1, 0xf3, 0xf4, 0xf5, 0xff}
	for _, a := range edges {
		for _, b := range edges {
			for _, c := range edges {
				expectLaws(t, known, []byte{a, b, c})
				for _, d := range edges {
					expectLaws(t, known, []byte{a, b, c, d})
				}
			}
		}
	}
}

// expectLaws holds each call on b against the words: no byte is in no char or in two, each char is what Decode of the rest tells.
func expectLaws(t *testing.T, known map[string]int, b []byte) {
	t.Helper()
	var want []api.Char
	first := -1
	for at := 0; at < len(b); {
		r, n := decode(known, b[at:])
		if gotR, gotN := utf.Decode(b[at:]); gotR != r || gotN != n {
			t.Fatalf("Decode of % x: %x of %d, want %x of %d", b[at:], gotR, gotN, r, n)
		}
		if r == api.Bad && first < 0 {
			first = at
		}
		want = append(want, api.Char{R: r, At: at, Len: n})
		at += n
	}
	if got := utf.Chars(b); !slices.Equal(got, want) {
		t.Fatalf("Chars of % x: %x, want %x", b, got, want)
	}
	if got := utf.First(b); got != first {
		t.Fatalf("First of % x: %d, want %d", b, got, first)
	}
	if utf8.Valid(b) != (first < 0) {
		t.Fatalf("First of % x: %d, and the language tells otherwise", b, first)
	}
}

// picker draws numbers in one order that is the same each time.
type picker uint32

func (p *picker) below(n int) int {
	*p = *p*1664525 + 1013904223
	return int(*p>>8) % n
}

// text is whole scalars, scalars cut short and any bytes, mixed.
func (p *picker) text() []byte {
	last := []int{0x80, 0x800, 0x10000, 0x110000}
	var out []byte
	for range p.below(20) {
		b := []byte(string(rune(p.below(last[p.below(len(last))]))))
		switch p.below(4) {
		case 0:
			out = append(out, b[:p.below(len(b)+1)]...)
		case 1:
			out = append(out, byte(p.below(256)))
		default:
			out = append(out, b...)
		}
	}
	return out
}

// TestMixedTexts holds long texts against the words.
func TestMixedTexts(t *testing.T) {
	known := fronts()
	p := picker(1)
	for range 20000 {
		expectLaws(t, known, p.text())
	}
}
