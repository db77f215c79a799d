package props_test

import (
	"bytes"
	"math"
	"slices"
	"strings"
	"testing"

	"glyphcutter/props"
	"glyphcutter/set"
)

// within tells if r lies in one of some runs: from and to in turn.
func within(r int, ends ...int) bool {
	for i := 0; i+1 < len(ends); i += 2 {
		if ends[i] <= r && r <= ends[i+1] {
			return true
		}
	}
	return false
}

func isScalar(r int) bool { return within(r, 0, 0xd7ff, 0xe000, 0x10ffff) }

func isCyrillic(r int) bool { return within(r, 0x400, 0x4ff) }

func isDigit(r int) bool {
	return within(r, 0x30, 0x39, 0x660, 0x669, 0x966, 0x96f, 0xff10, 0xff19)
}

func isGreek(r int) bool {
	return within(r, 0x370, 0x3ff) && !within(r, 0x374, 0x374, 0x378, 0x379, 0x380, 0x383, 0x385, 0x385,
		0x387, 0x387, 0x38b, 0x38b, 0x38d, 0x38d, 0x3a2, 0x3a2, 0x3e2, 0x3ef)
}

func isHan(r int) bool { return within(r, 0x3400, 0x4dbf, 0x4e00, 0x9fff, 0x20000, 0x2a6df) }

func isLatin(r int) bool {
	return within(r, 'A', 'Z', 'a', 'z', 0xc0, 0x24f) && r != 0xd7 && r != 0xf7 || r == 0xaa || r == 0xba
}

func isLetter(r int) bool { return isLatin(r) || isGreek(r) || isCyrillic(r) || isHan(r) }

// words are the chapter's own words for each class.
func words() map[string]func(r int) bool {
	return map[string]func(r int) bool{
		"any":      isScalar,
		"ascii":    func(r int) bool { return within(r, 0, 0x7f) },
		"blank":    func(r int) bool { return r == 9 || r == 0x20 || r == 0xa0 || r == 0x3000 },
		"cyrillic": isCyrillic,
		"digit":    isDigit,
		"greek":    isGreek,
		"han":      isHan,
		"hex":      func(r int) bool { return within(r, '0', '9', 'A', 'F', 'a', 'f') },
		"latin":    isLatin,
		"letter":   isLetter,
		"lower":    func(r int) bool { return within(r, 'a', 'z', 0xdf, 0xf6, 0xf8, 0xff, 0x3b1, 0x3c9, 0x430, 0x45f) },
		"upper": func(r int) bool {
			return within(r, 'A', 'Z', 0xc0, 0xd6, 0xd8, 0xde, 0x391, 0x3a1, 0x3a3, 0x3a9, 0x400, 0x42f)
		},
		"word": func(r int) bool { return isLetter(r) || isDigit(r) || r == '_' },
	}
}

// TestEveryScalar holds each class against the words, number by number.
func TestEveryScalar(t *testing.T) {
	for name, told := range words() {
		l, _ := props.Of(name)
		at := 0
		for r := -0x20; r < 0x110020; r++ {
			for at < len(l) && l[at].Hi < r {
				at++
			}
			in := at < len(l) && l[at].Lo <= r
			if in != told(r) {
				t.Fatalf("%s: %x is told %t", name, r, in)
			}
		}
		for _, r := range []int{math.MinInt, math.MaxInt, 1<<32 + 'a'} {
			if set.Has(l, r) {
				t.Errorf("%s has %x", name, r)
			}
		}
	}
}

// TestClassesAreSets: each class is in a set's one form, and has something.
func TestClassesAreSets(t *testing.T) {
	for _, name := range props.Names() {
		l, ok := props.Of(name)
		if !ok || len(l) == 0 || !slices.Equal(l, set.Norm(l)) {
			t.Errorf("%s is no set: %x, %t", name, l, ok)
		}
	}
}

// TestTogether: the classes that are made of others.
func TestTogether(t *testing.T) {
	of := sets()
	letter := set.Union(of["latin"], of["greek"], of["cyrillic"], of["han"])
	expectClass(t, "letter", letter)
	expectClass(t, "word", set.Union(letter, of["digit"], spans('_', '_')))
}

// TestNamesAreLoose: each name is there once, is compared as it is, and is a class's.
func TestNamesAreLoose(t *testing.T) {
	all := props.Names()
	if !slices.IsSorted(all) || len(slices.Compact(slices.Clone(all))) != len(all) {
		t.Errorf("Names don't rise: %q", all)
	}
	for _, name := range all {
		if loose := props.Loose(name); loose != name {
			t.Errorf("Loose of %s: %s", name, loose)
		}
		if _, ok := props.Of(name); !ok {
			t.Errorf("%s is no class", name)
		}
	}
}

// loosened is the chapter's own words for Loose.
func loosened(name string) string {
	b := []byte(name)
	for c := byte('A'); c <= 'Z'; c++ {
		b = bytes.ReplaceAll(b, []byte{c}, []byte{c + 32})
	}
	for _, c := range []byte{0x2d, 0x5f, 0x20} {
		b = bytes.ReplaceAll(b, []byte{c}, nil)
	}
	if len(b) > 2 && b[0] == 'i' && b[1] == 's' {
		b = b[2:]
	}
	return string(b)
}

// expectLoosened holds Loose of a name against the words, and Of it against Of what is loose: there, if that is a class's name.
func expectLoosened(t *testing.T, name string) {
	t.Helper()
	loose := loosened(name)
	if got := props.Loose(name); got != loose {
		t.Fatalf("Loose of %q: %q, want %q", name, got, loose)
	}
	l, ok := props.Of(name)
	if ok != slices.Contains(names, loose) || ok != (len(l) > 0) {
		t.Fatalf("Of %q: %x, %t", name, l, ok)
	}
	if ok && !slices.Equal(l, sets()[loose]) {
		t.Fatalf("Of %q: %x", name, l)
	}
}

// TestEveryByte: each byte alone, and between, before and behind others (T8).
func TestEveryByte(t *testing.T) {
	for c := range 256 {
		one := string([]byte{byte(c)})
		for _, name := range []string{one, one + one, "is" + one, "i" + one + "s", one + "is", "is" + one + "x", "a" + one + "ny", "han" + one, one + "hex", "isIs" + one} {
			expectLoosened(t, name)
		}
	}
}

// TestShortNames: all short names of what Loose looks at, and of bytes that it leaves.
func TestShortNames(t *testing.T) {
	row := []string{""}
	for range 5 {
		var longer []string
		for _, name := range row {
			expectLoosened(t, name)
			for _, c := range []byte("iISs-_ n\xff") {
				longer = append(longer, name+string([]byte{c}))
			}
		}
		row = longer
	}
}

// picker draws numbers in one order that is the same each time.
type picker uint32

func (p *picker) below(n int) int {
	*p = *p*1664525 + 1013904223
	return int(*p>>8) % n
}

// written is a class's name in some way: great and small, with strokes and blanks, perhaps with "is", and seldom with a byte that spoils it.
func (p *picker) written() string {
	var out []byte
	name := names[p.below(len(names))]
	if p.below(2) == 0 {
		name = strings.Repeat("is", 1+p.below(8)/7) + name
	}
	for i := range len(name) {
		for p.below(3) == 0 {
			out = append(out, "-_ "[p.below(3)])
		}
		c := name[i]
		if p.below(2) == 0 {
			c -= 32
		}
		if p.below(40) == 0 {
			c = byte(p.below(256))
		}
		out = append(out, c)
	}
	return string(out)
}

// TestWrittenNames holds names written in many ways against the words.
func TestWrittenNames(t *testing.T) {
	p := picker(1)
	for range 20000 {
		expectLoosened(t, p.written())
	}
}

// TestLongNames: a name may be of any length.
func TestLongNames(t *testing.T) {
	const n = 1 << 20
	for _, name := range []string{
		strings.Repeat("-", n), strings.Repeat("A", n), strings.Repeat("is", n), strings.Repeat("\xff ", n), strings.Repeat("_ ", n) + "IS" + strings.Repeat("-", n) + "Any",
	} {
		if got := props.Loose(name); got != loosened(name) {
			t.Errorf("Loose of a name of %d bytes", len(name))
		}
		if _, ok := props.Of(name); ok != slices.Contains(names, loosened(name)) {
			t.Errorf("Of a name of %d bytes: %t", len(name), ok)
		}
	}
}
