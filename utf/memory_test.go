package utf_test

import (
	"bytes"
	"slices"
	"testing"

	"glyphcutter/api"
	"glyphcutter/utf"
)

// texts are such that what lies behind each of them in room would make another char of its end.
func texts() []string {
	return []string{"", "A", "\xe2", "\xe2\x82", "a\xf0\x9f\x98", "\xe2\x82A", "\u20ac\xff\xc2", "\xed\xa0\x80"}
}

// room is b with bytes behind its length in its memory: the whole memory, and the list.
func room(b string) ([]byte, []byte) {
	whole := []byte(b + "\x82\x80\xac\xff")
	return whole, whole[:len(b)]
}

// TestArgumentsStay: R2: what is handed in is not changed, what lies behind a list's length is neither read nor written.
func TestArgumentsStay(t *testing.T) {
	for _, b := range texts() {
		whole, part := room(b)
		kept := bytes.Clone(whole)
		alone := slices.Clip([]byte(b))
		gotR, gotN := utf.Decode(part)
		if r, n := utf.Decode(alone); gotR != r || gotN != n {
			t.Errorf("Decode of % x read what lies behind it", b)
		}
		if !slices.Equal(utf.Chars(part), utf.Chars(alone)) {
			t.Errorf("Chars of % x read what lies behind it", b)
		}
		if utf.First(part) != utf.First(alone) {
			t.Errorf("First of % x read what lies behind it", b)
		}
		if !bytes.Equal(whole, kept) {
			t.Errorf("% x was changed", b)
		}
	}
}

// TestEncodedAreNew: R2: who writes into what Encode answered, up to its capacity, changes no other answer.
func TestEncodedAreNew(t *testing.T) {
	for r, want := range edgeScalars() {
		first, second := utf.Encode(r), utf.Encode(r)
		first = first[:cap(first)]
		for i := range first {
			first[i] = 0x77
		}
		if string(second) != want || string(utf.Encode(r)) != want {
			t.Errorf("Encode of %x: answers share memory", r)
		}
	}
}

// TestCharsAreNew: R2: the same of Chars, and its answer stays when the argument changes.
func TestCharsAreNew(t *testing.T) {
	for _, b := range texts() {
		whole, part := room(b)
		kept := bytes.Clone(whole)
		first, second := utf.Chars(part), utf.Chars(part)
		want := slices.Clone(second)
		first = first[:cap(first)]
		for i := range first {
			first[i] = api.Char{R: -77, At: -77, Len: -77}
		}
		if !bytes.Equal(whole, kept) {
			t.Errorf("Chars of % x: the answer shares memory with the argument", b)
		}
		if !slices.Equal(second, want) || !slices.Equal(utf.Chars(part), want) {
			t.Errorf("Chars of % x: answers share memory", b)
		}
		for i := range whole {
			whole[i] = 0x77
		}
		if !slices.Equal(second, want) {
			t.Errorf("Chars of % x: the answer changed with the argument", b)
		}
	}
}
