package fold_test

import (
	"slices"
	"testing"

	"glyphcutter/api"
	"glyphcutter/fold"
)

// lists are arguments of Close: those that are sets, or closed already, tempt it to work within them.
func lists() [][]api.Span {
	return [][]api.Span{
		nil,
		spans('1', '1'),
		spans('k', 'k'),
		spans('K', 'K', 'k', 'k', 0x212a, 0x212a),
		spans(0x391, 0x3a9),
		spans(0, 0xd7ff, 0xe000, 0x10ffff),
		spans('c', 'd', 'a', 'b', 7, 2, 0xd7ff, 0xe000),
	}
}

// TestCloseKeepsItsArgument: R2: what is handed in is not changed, what lies behind its length is neither read nor written.
func TestCloseKeepsItsArgument(t *testing.T) {
	for _, l := range lists() {
		whole := append(slices.Clone(l), spans(0x410, 0x412, 'x', 'y')...)
		kept := slices.Clone(whole)
		if got, want := fold.Close(whole[:len(l)]), fold.Close(slices.Clip(l)); !slices.Equal(got, want) {
			t.Errorf("Close of %x with memory behind it: %x, want %x", l, got, want)
		}
		if !slices.Equal(whole, kept) {
			t.Errorf("Close changed %x", l)
		}
	}
}

// TestClosedAreNew: R2: who writes into an answer, up to its capacity, changes no other one, nor the argument; and an answer stays when that changes.
func TestClosedAreNew(t *testing.T) {
	for _, l := range lists() {
		arg := slices.Clone(l)
		first, second := fold.Close(arg), fold.Close(arg)
		want := slices.Clone(second)
		first = first[:cap(first)]
		for i := range first {
			first[i] = api.Span{Lo: -77, Hi: -77}
		}
		if !slices.Equal(arg, l) {
			t.Errorf("Close of %x: the answer shares memory with the argument", l)
		}
		if !slices.Equal(second, want) || !slices.Equal(fold.Close(arg), want) {
			t.Errorf("Close of %x: answers share memory", l)
		}
		for i := range arg {
			arg[i] = api.Span{Lo: -77, Hi: -77}
		}
		if !slices.Equal(second, want) {
			t.Errorf("Close of %x: the answer changed with the argument", l)
		}
	}
}

// TestOrbitsAreNew: R2: who writes into what Orbit answered, up to its capacity, changes no other answer.
func TestOrbitsAreNew(t *testing.T) {
	for _, want := range orbits() {
		r := want[0]
		first, second := fold.Orbit(r), fold.Orbit(r)
		first = first[:cap(first)]
		for i := range first {
			first[i] = -77
		}
		if !slices.Equal(second, want) || !slices.Equal(fold.Orbit(r), want) {
			t.Errorf("Orbit of %x: answers share memory", r)
		}
	}
}
