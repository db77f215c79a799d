package props_test

import (
	"slices"
	"strings"
	"testing"

	"glyphcutter/api"
	"glyphcutter/props"
)

// spans takes Lo and Hi in turn.
func spans(n ...int) []api.Span {
	var out []api.Span
	for i := 0; i+1 < len(n); i += 2 {
		out = append(out, api.Span{Lo: n[i], Hi: n[i+1]})
	}
	return out
}

// names are all classes' names, rising.
var names = []string{
	"any", "ascii", "blank", "cyrillic", "digit", "greek", "han", "hex", "latin", "letter", "lower", "upper", "word",
}

// sets are the classes as sets: without surrogates, and joined where two touch, as greek and cyrillic do in letter.
func sets() map[string][]api.Span {
	return map[string][]api.Span{
		"any":      spans(0, 0xd7ff, 0xe000, 0x10ffff),
		"ascii":    spans(0, 0x7f),
		"blank":    spans(9, 9, 0x20, 0x20, 0xa0, 0xa0, 0x3000, 0x3000),
		"cyrillic": spans(0x400, 0x4ff),
		"digit":    spans(0x30, 0x39, 0x660, 0x669, 0x966, 0x96f, 0xff10, 0xff19),
		"greek": spans(0x370, 0x373, 0x375, 0x377, 0x37a, 0x37f, 0x384, 0x384, 0x386, 0x386, 0x388, 0x38a,
			0x38c, 0x38c, 0x38e, 0x3a1, 0x3a3, 0x3e1, 0x3f0, 0x3ff),
		"han":   spans(0x3400, 0x4dbf, 0x4e00, 0x9fff, 0x20000, 0x2a6df),
		"hex":   spans(0x30, 0x39, 0x41, 0x46, 0x61, 0x66),
		"latin": spans(0x41, 0x5a, 0x61, 0x7a, 0xaa, 0xaa, 0xba, 0xba, 0xc0, 0xd6, 0xd8, 0xf6, 0xf8, 0x24f),
		"letter": spans(0x41, 0x5a, 0x61, 0x7a, 0xaa, 0xaa, 0xba, 0xba, 0xc0, 0xd6, 0xd8, 0xf6, 0xf8, 0x24f,
			0x370, 0x373, 0x375, 0x377, 0x37a, 0x37f, 0x384, 0x384, 0x386, 0x386, 0x388, 0x38a,
			0x38c, 0x38c, 0x38e, 0x3a1, 0x3a3, 0x3e1, 0x3f0, 0x4ff,
			0x3400, 0x4dbf, 0x4e00, 0x9fff, 0x20000, 0x2a6df),
		"lower": spans(0x61, 0x7a, 0xdf, 0xf6, 0xf8, 0xff, 0x3b1, 0x3c9, 0x430, 0x45f),
		"upper": spans(0x41, 0x5a, 0xc0, 0xd6, 0xd8, 0xde, 0x391, 0x3a1, 0x3a3, 0x3a9, 0x400, 0x42f),
		"word": spans(0x30, 0x39, 0x41, 0x5a, 0x5f, 0x5f, 0x61, 0x7a, 0xaa, 0xaa, 0xba, 0xba, 0xc0, 0xd6, 0xd8, 0xf6, 0xf8, 0x24f,
			0x370, 0x373, 0x375, 0x377, 0x37a, 0x37f, 0x384, 0x384, 0x386, 0x386, 0x388, 0x38a,
			0x38c, 0x38c, 0x38e, 0x3a1, 0x3a3, 0x3e1, 0x3f0, 0x4ff, 0x660, 0x669, 0x966, 0x96f,
			0x3400, 0x4dbf, 0x4e00, 0x9fff, 0xff10, 0xff19, 0x20000, 0x2a6df),
	}
}

// expectClass asks for a class by a way to write its name.
func expectClass(t *testing.T, name string, want []api.Span) {
	t.Helper()
	got, ok := props.Of(name)
	if !ok || !slices.Equal(got, want) {
		t.Errorf("Of %q: %x, %t, want %x", name, got, ok, want)
	}
}

func TestOf(t *testing.T) {
	for name, want := range sets() {
		expectClass(t, name, want)
	}
}

// TestOfLooseNames asks for every class by all ways to write its name.
func TestOfLooseNames(t *testing.T) {
	expectClass(t, "Is_ASCII", spans(0, 0x7f))
	for name, want := range sets() {
		great := strings.ToUpper(name)
		for _, written := range []string{
			great, great[:1] + name[1:], name[:1] + great[1:],
			"is" + name, "Is" + name, "iS" + great, "IS" + great, "Is_" + name, "is-" + name, "is " + name, "i_s" + name,
			"_" + name, name + "_", "-" + name, name + "-", " " + name, name + " ",
			name[:1] + "_" + name[1:], name[:2] + "-" + name[2:], name[:1] + " " + great[1:],
			"--_ I -_- S " + strings.Join(strings.Split(great, ""), " _-") + "  ",
			strings.Repeat("_- ", 10000) + name,
		} {
			expectClass(t, written, want)
		}
	}
}

// TestOfNoClass: what is compared like no class is none, and then there are no spans.
func TestOfNoClass(t *testing.T) {
	for _, name := range []string{
		"", " ", "-", "_", "-_ ", "is", "IS", "I_s", "is-", "isis", "isisany", "Is_Is_ASCII", "is is greek",
		"nothing", "space", "alpha", "alnum", "punct", "L", "Lu", "l", "d", "w", "number", "armenian", "common",
		"an", "anyy", "asci", "asciii", "digits", "letters", "ha", "hann", "he", "hexx", "words", "wor", "yna", "sany", "iany", "siany",
		"any\x00", "\x00any", "any\n", "\tany", "a\tny", "any\u00a0", "an\u3000y", "any,", "any.", "any}", "{any}", "^any", "!any", "any;", "a+ny",
		"any han", "letterdigit", "latin|greek", "isany is",
		"blan\u212a", "BLAN\u212a", "a\u017fcii", "\u0130sany", "d\u0131git", "\uff41\uff4e\uff59", "\u0391\u039d\u03a5", "gr\u00e9ek",
		"any\xff", "\xffany", "a\x80ny", "\xc1any", "any\xe2\x82", "\xe1\xee\xf9", strings.Repeat("any", 10000),
		"wor\u2010d", "wor\u00add", "any\u2013", "any\u203f", "a\u2212ny",
	} {
		if got, ok := props.Of(name); ok || len(got) != 0 {
			t.Errorf("Of %q: %x, %t, want nothing", name, got, ok)
		}
	}
}

func TestNames(t *testing.T) {
	for range 50 {
		if got := props.Names(); !slices.Equal(got, names) {
			t.Fatalf("Names: %q, want %q", got, names)
		}
	}
}

func TestLoose(t *testing.T) {
	for name, want := range map[string]string{
		"": "", "any": "any", "ANY": "any", "aNy": "any", "Is_ASCII": "ascii", "Is-Han": "han",
		"ABCDEFGHIJKLMNOPQRSTUVWXYZ": "abcdefghijklmnopqrstuvwxyz",
		"abcdefghijklmnopqrstuvwxyz": "abcdefghijklmnopqrstuvwxyz",
		"0123456789":                 "0123456789",

		"-": "", "_": "", " ": "", "_- -_": "", "a-b": "ab", "a_b": "ab", "a b": "ab", "-a_ b-": "ab",

		"is": "is", "Is": "is", "iS": "is", "IS": "is", "is-": "is", "_i s": "is", "I-S ": "is", "i": "i", "I": "i", "s": "s", "-i-": "i",
		"isa": "a", "IsA": "a", "is a": "a", "i-s_a": "a", " I S A ": "a", "is0": "0", "is.": ".", "is\x00": "\x00",
		"isi": "i", "isis": "is", "IS-IS": "is", "isisa": "isa", "is is is": "isis",
		"aisb": "aisb", "bis": "bis", "his": "his", "sis": "sis", "iis": "iis", "si": "si", "i.s": "i.s", "island": "land", "isx-is": "xis",

		// Beside the letters, the strokes and the blank, and far from them: nothing is made small, or left away.
		"@[`{": "@[`{", "\t\n\r\v\f": "\t\n\r\v\f", "\x00\x7f": "\x00\x7f", "!,./^~+": "!,./^~+", "\x1f!": "\x1f!",
		"\u00a0": "\u00a0", "\u3000": "\u3000", "\u2010\u2013\u2212\u00ad": "\u2010\u2013\u2212\u00ad", "\u203f\uff3f": "\u203f\uff3f",
		"\u00c0\u00de": "\u00c0\u00de", "\u0391\u03a9": "\u0391\u03a9", "\u0410": "\u0410", "\u0130": "\u0130", "\u212a": "\u212a", "\uff21": "\uff21",
		"\u0130s\u0391": "\u0130s\u0391", "is\u0391": "\u0391", "\U00010400": "\U00010400",

		// Bytes that are no scalar's stay as they are.
		"\xff": "\xff", "\xc1": "\xc1", "A\xe2\x82": "a\xe2\x82", "is\xff": "\xff", "is_\x80": "\x80", "\xffis": "\xffis", "i\x80s": "i\x80s", "\xed\xa0\x80": "\xed\xa0\x80",
	} {
		if got := props.Loose(name); got != want {
			t.Errorf("Loose of %q: %q, want %q", name, got, want)
		}
	}
}
