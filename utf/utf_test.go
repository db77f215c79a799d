package utf_test

import (
	"bytes"
	"math"
	"slices"
	"testing"

	"glyphcutter/api"
	"glyphcutter/utf"
)

func isScalar(r int) bool { return r >= 0 && r <= 0x10ffff && (r < 0xd800 || r > 0xdfff) }

// edgeScalars are the first and the last scalar of each length, those beside the surrogates, and some within, as bytes.
func edgeScalars() map[int]string {
	return map[int]string{
		0: "\x00", 1: "\x01", 0x41: "A", 0x7f: "\x7f",
		0x80: "\xc2\x80", 0xbf: "\xc2\xbf", 0xc0: "\xc3\x80", 0xe9: "\xc3\xa9", 0x7ff: "\xdf\xbf",
		0x800: "\xe0\xa0\x80", 0xfff: "\xe0\xbf\xbf", 0x1000: "\xe1\x80\x80", 0x20ac: "\xe2\x82\xac", 0xcfff: "\xec\xbf\xbf",
		0xd000: "\xed\x80\x80", 0xd7ff: "\xed\x9f\xbf", 0xe000: "\xee\x80\x80", 0xfffd: "\xef\xbf\xbd", 0xffff: "\xef\xbf\xbf",
		0x10000: "\xf0\x90\x80\x80", 0x1f600: "\xf0\x9f\x98\x80", 0x3ffff: "\xf0\xbf\xbf\xbf", 0x40000: "\xf1\x80\x80\x80",
		0xfffff: "\xf3\xbf\xbf\xbf", 0x100000: "\xf4\x80\x80\x80", 0x10ffff: "\xf4\x8f\xbf\xbf",
	}
}

func TestEncode(t *testing.T) {
	for r, want := range edgeScalars() {
		if got := utf.Encode(r); string(got) != want {
			t.Errorf("Encode of %x: % x, want % x", r, got, want)
		}
	}
}

func TestEncodeOfNoScalar(t *testing.T) {
	for _, r := range []int{
		math.MinInt, math.MinInt + 0x41, -0x10ffff, -256, -128, -2, api.Bad,
		0x110000, 0x110041, 0x1fffff, 0x200000, math.MaxInt32, 1<<32 - 1, 1 << 32, 1<<32 + 0x41, 1<<40 + 0x20ac, math.MaxInt - 1, math.MaxInt,
	} {
		if got := utf.Encode(r); len(got) != 0 {
			t.Errorf("Encode of %x: % x, want nothing", r, got)
		}
	}
	for r := 0xd800; r <= 0xdfff; r++ {
		if got := utf.Encode(r); len(got) != 0 {
			t.Errorf("Encode of the surrogate %x: % x, want nothing", r, got)
		}
	}
}

func TestDecode(t *testing.T) {
	for r, b := range edgeScalars() {
		for _, rest := range []string{"", "A", "\x80", "\xbf\xbf\xbf", "\xc2", "\xff", "\xe2\x82\xac"} {
			expectDecode(t, b+rest, r, len(b))
		}
	}
}

func expectDecode(t *testing.T, b string, r, n int) {
	t.Helper()
	if gotR, gotN := utf.Decode([]byte(b)); gotR != r || gotN != n {
		t.Errorf("Decode of % x: %x of %d, want %x of %d", b, gotR, gotN, r, n)
	}
}

func TestDecodeOfNoScalar(t *testing.T) {
	expectDecode(t, "", api.Bad, 0)
	if r, n := utf.Decode(nil); r != api.Bad || n != 0 {
		t.Errorf("Decode of nil: %x of %d", r, n)
	}
	for _, c := range []struct {
		b string
		n int
	}{
		{"\xe2\x82A", 2}, {"\xc0\x80", 1}, {"\xed\xa0\x80", 1}, // the chapter's examples
		{"\x80", 1}, {"\xbf", 1}, {"\x80\x80", 1}, {"\xbfA", 1}, // what only goes on
		{"\xc0", 1}, {"\xc1", 1}, {"\xc1\xbf", 1}, {"\xf5", 1}, {"\xf5\x80\x80\x80", 1}, {"\xf7\xbf\xbf\xbf", 1}, // what begins nothing
		{"\xf8\x88\x80\x80\x80", 1}, {"\xfc\x84\x80\x80\x80\x80", 1}, {"\xfe", 1}, {"\xff", 1}, {"\xff\xff", 1},
		{"\xc2", 1}, {"\xdf", 1}, {"\xe0", 1}, {"\xe2", 1}, {"\xed", 1}, {"\xef", 1}, {"\xf0", 1}, {"\xf1", 1}, {"\xf4", 1}, // cut short behind one
		{"\xe0\xa0", 2}, {"\xe2\x82", 2}, {"\xed\x9f", 2}, {"\xef\xbf", 2}, {"\xf0\x90", 2}, {"\xf1\x80", 2}, {"\xf4\x8f", 2}, // behind two
		{"\xf0\x90\x80", 3}, {"\xf1\x80\x80", 3}, {"\xf4\x8f\xbf", 3}, // behind three
		{"\xc2A", 1}, {"\xc2\xc2\x80", 1}, {"\xdf\x7f", 1}, {"\xdf\xc0", 1}, // gone on with what does not
		{"\xe2A\x82", 1}, {"\xe2\x82\xe2\x82\xac", 2}, {"\xe2\x82\x7f", 2}, {"\xe2\x82\xc0", 2},
		{"\xf1A", 1}, {"\xf1\x80A", 2}, {"\xf1\x80\x80A", 3}, {"\xf1\x80\x80\xf1", 3}, {"\xf1\x80\x80\xff", 3},
		{"\xe0\x80\x80", 1}, {"\xe0\x9f\xbf", 1}, {"\xf0\x80\x80\x80", 1}, {"\xf0\x8f\xbf\xbf", 1}, // too long for their scalar
		{"\xed\xbf\xbf", 1}, {"\xed\xa0", 1}, // surrogates
		{"\xf4\x90\x80\x80", 1}, {"\xf4\xbf\xbf\xbf", 1}, {"\xf4\x90", 1}, // above 10ffff
	} {
		expectDecode(t, c.b, api.Bad, c.n)
	}
}

func TestChars(t *testing.T) {
	for _, c := range []struct {
		b    string
		want []api.Char
	}{
		{"", nil},
		{"A", chars(0x41, 1)},
		{"a\u00e9\u20ac\U0001f600", chars(0x61, 1, 0xe9, 2, 0x20ac, 3, 0x1f600, 4)},
		{"\x00\x00", chars(0, 1, 0, 1)},
		{"\ufffd\ufeff", chars(0xfffd, 3, 0xfeff, 3)},
		{"\xe2\x82A", chars(api.Bad, 2, 0x41, 1)},
		{"\xc0\x80", chars(api.Bad, 1, api.Bad, 1)},
		{"\xed\xa0\x80", chars(api.Bad, 1, api.Bad, 1, api.Bad, 1)},
		{"\xf0\x9f\x98", chars(api.Bad, 3)},
		{"\xf0\x9f\x98\xf0\x9f\x98\x80\xf0", chars(api.Bad, 3, 0x1f600, 4, api.Bad, 1)},
		{"\xf4\x90\x80\x80", chars(api.Bad, 1, api.Bad, 1, api.Bad, 1, api.Bad, 1)},
		{"\xe2\x82\xe2\x82\xac\xac", chars(api.Bad, 2, 0x20ac, 3, api.Bad, 1)},
	} {
		if got := utf.Chars([]byte(c.b)); !slices.Equal(got, c.want) {
			t.Errorf("Chars of % x: %x, want %x", c.b, got, c.want)
		}
	}
	if got := utf.Chars(nil); len(got) != 0 {
		t.Errorf("Chars of nil: %x", got)
	}
}

// chars takes R and Len in turn; each begins where the one ahead of it ends.
func chars(n ...int) []api.Char {
	var out []api.Char
	at := 0
	for i := 0; i+1 < len(n); i += 2 {
		out = append(out, api.Char{R: n[i], At: at, Len: n[i+1]})
		at += n[i+1]
	}
	return out
}

func TestFirst(t *testing.T) {
	for b, want := range map[string]int{
		"": -1, "A": -1, "\x00": -1, "a\u00e9\u20ac\U0001f600": -1, "\ufffd": -1,
		"\xff": 0, "\x80A": 0, "A\xc0": 1, "A\xc0\xc0": 1, "\u20ac\xe2\x82": 3, "\u20ac\xe2\x82A\xff": 3,
		"\U0001f600\xed\xa0\x80": 4, "a\u00e9\xf0\x9f\x98": 3, "\xe2\x82A": 0,
	} {
		if got := utf.First([]byte(b)); got != want {
			t.Errorf("First of % x: %d, want %d", b, got, want)
		}
	}
	if got := utf.First(nil); got != -1 {
		t.Errorf("First of nil: %d", got)
	}
	long := bytes.Repeat([]byte("\u00e9"), 50000)
	if utf.First(long) != -1 || utf.First(append(long, 0xc3)) != 100000 {
		t.Error("First of a long text")
	}
}
