package dfa_test

import (
	"math"
	"slices"
	"testing"

	"glyphcutter/api"
	"glyphcutter/dfa"
	"glyphcutter/set"
)

// plain is a machine of so many states and parts, one scalar each, from which nothing leads anywhere.
func plain(states, parts int) api.Dfa {
	var d api.Dfa
	for range states {
		d.Next = append(d.Next, slices.Repeat([]int{-1}, parts))
		d.Tags = append(d.Tags, -1)
	}
	for i := range parts {
		d.Parts = append(d.Parts, spans(2*i, 2*i))
	}
	return d
}

// expectSound asks whether a machine may be; of one that may not, Longest tells nothing.
func expectSound(t *testing.T, what string, d api.Dfa, want bool) {
	t.Helper()
	if dfa.Sound(d) != want {
		t.Errorf("%s: Sound is not %t", what, want)
	}
	if !want {
		expectLongest(t, what, d, []int{0, 'a', 'b'}, 0, -1)
		expectLongest(t, what, d, nil, 0, -1)
	}
}

func TestSoundByStates(t *testing.T) {
	expectSound(t, "nothing", api.Dfa{}, false)
	expectSound(t, "no states", plain(0, 0), false)
	expectSound(t, "no states, but parts", plain(0, 3), false)
	for _, states := range []int{1, 2, 30, 1999, 2000} {
		expectSound(t, "some states", plain(states, 0), true)
		expectSound(t, "some states, with parts", plain(states, 3), true)
	}
	for _, states := range []int{2001, 2002, 4000, 40000} {
		expectSound(t, "too many states", plain(states, 0), false)
		expectSound(t, "too many states, with parts", plain(states, 1), false)
	}
}

// TestSoundByParts: there may be 2000 parts.
func TestSoundByParts(t *testing.T) {
	for _, parts := range []int{0, 1, 2, 30, 1999, 2000} {
		expectSound(t, "some parts", plain(2, parts), true)
	}
	for _, parts := range []int{2001, 2002, 4000, 40000} {
		expectSound(t, "too many parts", plain(2, parts), false)
	}
	empty := plain(2, 2001)
	clear(empty.Parts)
	expectSound(t, "too many parts, of nothing", empty, false)
	empty = plain(2, 2000)
	clear(empty.Parts)
	expectSound(t, "parts of nothing", empty, true)
}

// TestSoundByLengths: there are as many rows as tags, and each row has as many as there are parts.
func TestSoundByLengths(t *testing.T) {
	for next := range 4 {
		for tags := range 4 {
			d := api.Dfa{Next: plain(next, 2).Next, Tags: plain(tags, 2).Tags, Parts: plain(1, 2).Parts}
			expectSound(t, "lists", d, next == tags && tags > 0)
		}
	}
	for _, long := range []int{1999, 2001, 3000} {
		expectSound(t, "another length", api.Dfa{Next: plain(long, 0).Next, Tags: plain(2000, 0).Tags}, false)
		expectSound(t, "another length", api.Dfa{Next: plain(2000, 0).Next, Tags: plain(long, 0).Tags}, false)
	}
	for parts := range 4 {
		for long := range 5 {
			for place := range 3 {
				d := plain(3, parts)
				d.Next[place] = slices.Repeat([]int{-1}, long)
				expectSound(t, "a row", d, long == parts)
			}
		}
	}
}

func TestSoundByTags(t *testing.T) {
	for _, tag := range []int{-1, 0, 1, 29, 30, 2000, 1 << 40, math.MaxInt, -2, -3, -1 << 40, math.MinInt} {
		for place := range 3 {
			d := plain(3, 1)
			d.Tags[place] = tag
			expectSound(t, "a tag", d, tag >= -1)
		}
	}
}

// TestSoundByPlaces: each entry is -1 or a state, whichever entry it is.
func TestSoundByPlaces(t *testing.T) {
	for _, states := range []int{1, 2, 5, 2000} {
		for _, to := range []int{0, states / 2, states - 1, states, states + 1, -1, -2, 2001, math.MaxInt, math.MinInt} {
			want := -1 <= to && to < states
			for _, from := range []int{0, states / 2, states - 1} {
				for part := range 3 {
					d := plain(states, 3)
					d.Next[from][part] = to
					expectSound(t, "an entry", d, want)
				}
			}
		}
	}
}

// expectRight holds a machine of some parts against the chapter's words, which are asked of each two parts by themselves.
func expectRight(t *testing.T, parts ...[]api.Span) {
	t.Helper()
	want := true
	for i, x := range parts {
		want = want && slices.Equal(set.Norm(x), x)
		for _, y := range parts[:i] {
			want = want && len(set.Inter(x, y)) == 0
		}
	}
	d := plain(2, len(parts))
	d.Parts = parts
	if dfa.Sound(d) != want {
		t.Fatalf("parts %x: Sound is not %t", parts, want)
	}
}

// TestSoundBySets holds all parts of two spans, and all pairs of parts of one, with ends where something changes, against the words.
func TestSoundBySets(t *testing.T) {
	ends := []int{math.MinInt, -2, -1, 0, 1, 2, 3, 4, 0xd7fe, 0xd7ff, 0xd800, 0xdfff, 0xe000, 0xe001, 0x10fffe, 0x10ffff, 0x110000, math.MaxInt}
	expectRight(t, nil)
	expectRight(t, []api.Span{})
	for _, lo := range ends {
		for _, hi := range ends {
			expectRight(t, spans(lo, hi))
			for _, lo2 := range ends {
				for _, hi2 := range ends {
					expectRight(t, spans(lo, hi, lo2, hi2))
					expectRight(t, spans(lo, hi), spans(lo2, hi2))
				}
			}
		}
	}
}

// TestSoundByManyParts holds parts that touch, lie within one another's gaps, or have a scalar in common, against the words.
func TestSoundByManyParts(t *testing.T) {
	for word := range 1 << 15 {
		parts := make([][]api.Span, 3)
		// Each of five scalars is in any of three parts.
		for r := range 5 {
			for i := range parts {
				if word>>(3*r+i)&1 == 1 {
					parts[i] = set.Union(parts[i], spans(r, r))
				}
			}
		}
		expectRight(t, parts...)
	}
	expectRight(t, spans(0, 9, 20, 29), spans(10, 10, 12, 19), nil, spans(30, 0xd7ff), spans(0xe000, 0x10ffff), spans(11, 11))
	expectRight(t, spans(0, 9, 20, 29), spans(10, 10, 12, 20), nil, spans(30, 0xd7ff))
	expectRight(t, spans(0, 100), spans(7, 8))
	expectRight(t, spans(7, 8), spans(0, 100))
	expectRight(t, spans(7, 8), spans(7, 8))
	expectRight(t, spans(0, 0x10ffff))
}

// TestSoundByLastPart: what is wrong with one part of 2000 is found, wherever it stands.
func TestSoundByLastPart(t *testing.T) {
	for _, place := range []int{0, 1, 1000, 1999} {
		for what, wrong := range map[string][]api.Span{
			"of another part too": spans(2*((place+1)%2000), 2*((place+1)%2000)),
			"no set":              spans(5000, 5001, 5002, 5003),
			"no span":             spans(5001, 5000),
		} {
			d := plain(1, 2000)
			d.Parts[place] = wrong
			expectSound(t, what, d, false)
			d.Parts[place] = spans(5000, 5001, 5003, 5004)
			expectSound(t, "and right", d, true)
		}
	}
}
