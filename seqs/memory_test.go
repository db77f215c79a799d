package seqs_test

import (
	"bytes"
	"slices"
	"testing"

	"glyphcutter/api"
	"glyphcutter/seqs"
)

// lists are arguments of Of: those that are sets already tempt it to work within them.
func lists() [][]api.Span {
	return [][]api.Span{
		nil,
		spans(0x41, 0x41),
		spans(0x7f, 0x80),
		spans(0x81, 0x7fe),
		spans(0, 0xd7ff, 0xe000, 0x10ffff),
		spans(5, 9, 0x10001, 0x10fffe, 0, 4, 7, 2, 0xd7ff, 0xe000),
	}
}

// scribble writes over all of the rows' memory, up to their capacities.
func scribble(rows [][]api.Range) {
	rows = rows[:cap(rows)]
	for i, row := range rows {
		row = row[:cap(row)]
		for j := range row {
			row[j] = api.Range{Lo: 0x77, Hi: 0x66}
		}
		rows[i] = nil
	}
}

// TestOfKeepsItsArgument: R2: what is handed in is not changed, what lies behind its length is neither read nor written.
func TestOfKeepsItsArgument(t *testing.T) {
	for _, l := range lists() {
		whole := append(slices.Clone(l), spans(0x300, 0x400, 1, 2)...)
		kept := slices.Clone(whole)
		if got, want := tell(seqs.Of(whole[:len(l)])), tell(seqs.Of(slices.Clip(l))); got != want {
			t.Errorf("Of of %x with memory behind it: %s, want %s", l, got, want)
		}
		if !slices.Equal(whole, kept) {
			t.Errorf("Of changed %x", l)
		}
	}
}

// TestOfIsNew: R2: who writes into an answer changes no other one, nor the argument; and an answer stays when that changes.
func TestOfIsNew(t *testing.T) {
	for _, l := range lists() {
		arg := slices.Clone(l)
		first, second := seqs.Of(arg), seqs.Of(arg)
		want := tell(second)
		scribble(first)
		if !slices.Equal(arg, l) {
			t.Errorf("Of of %x: the answer shares memory with the argument", l)
		}
		if tell(second) != want || tell(seqs.Of(arg)) != want {
			t.Errorf("Of of %x: answers share memory", l)
		}
		for i := range arg {
			arg[i] = api.Span{Lo: -77, Hi: -77}
		}
		if tell(second) != want {
			t.Errorf("Of of %x: the answer changed with the argument", l)
		}
	}
}

// TestRowsAreApart: no two rows of one answer share memory, nor what lies behind their lengths.
func TestRowsAreApart(t *testing.T) {
	for _, l := range lists() {
		want := seqs.Of(l)
		for i := range want {
			rows := seqs.Of(l)
			scribble(rows[i : i+1 : i+1])
			rows[i] = want[i]
			if tell(rows) != tell(want) {
				t.Errorf("Of of %x: row %d shares memory with another one", l, i)
			}
		}
	}
}

// TestAskingChangesNothing: R2 of Match and Count: behind rows, behind each row and behind the bytes there is memory that would make another answer.
func TestAskingChangesNothing(t *testing.T) {
	whole := rowsOf([]byte{0x41, 0x5a, 0x80, 0xbf}, []byte{0xc3, 0xc5, 0x80, 0xbf, 0, 0xff}, []byte{0, 0xff, 0, 0xff})
	keep := func() [][]api.Range {
		return rowsOf([]byte{0x41, 0x5a, 0x80, 0xbf}, []byte{0xc3, 0xc5, 0x80, 0xbf, 0, 0xff}, []byte{0, 0xff, 0, 0xff})
	}
	rows := [][]api.Range{whole[0][:1], whole[1][:2], whole[2]}
	part := rows[:2]
	text := []byte("A\x80\x80")
	for n, want := range []bool{false, true, false, false} {
		if got := seqs.Match(part, text[:n]); got != want {
			t.Errorf("Match of % x: %t", text[:n], got)
		}
	}
	if got := seqs.Count(part); got != 26+3*64 {
		t.Errorf("Count: %d", got)
	}
	if tell(whole) != tell(keep()) || len(rows[0]) != 1 || len(rows[1]) != 2 || len(rows[2]) != 2 || !bytes.Equal(text, []byte("A\x80\x80")) {
		t.Error("what was handed in was changed")
	}
}
