package least_test

import (
	"math"
	"slices"
	"testing"

	"glyphcutter/api"
	"glyphcutter/least"
)

// plain is a machine of so many states and parts, one scalar each, from which nothing leads anywhere.
func plain(states, parts int) api.Dfa {
	var d api.Dfa
	for range states {
		d.Next = append(d.Next, slices.Repeat([]int{-1}, parts))
		d.Tags = append(d.Tags, -1)
	}
	for i := range parts {
		d.Parts = append(d.Parts, spans(2*i, 2*i))
	}
	return d
}

// TestUnsound: of a machine that may not be there is none.
func TestUnsound(t *testing.T) {
	sound := func() api.Dfa {
		return api.Dfa{Parts: [][]api.Span{spans('a', 'a'), spans('b', 'c')}, Next: [][]int{{1, 0}, {-1, 1}}, Tags: []int{-1, 0}}
	}
	for what, spoil := range map[string]func(d *api.Dfa){
		"nothing":             func(d *api.Dfa) { *d = api.Dfa{} },
		"no states":           func(d *api.Dfa) { d.Next, d.Tags = nil, nil },
		"empty lists":         func(d *api.Dfa) { *d = api.Dfa{Parts: [][]api.Span{}, Next: [][]int{}, Tags: []int{}} },
		"more tags":           func(d *api.Dfa) { d.Tags = append(d.Tags, -1) },
		"fewer tags":          func(d *api.Dfa) { d.Tags = d.Tags[:1] },
		"more rows":           func(d *api.Dfa) { d.Next = append(d.Next, []int{0, 0}) },
		"more parts":          func(d *api.Dfa) { d.Parts = append(d.Parts, spans('d', 'd')) },
		"fewer parts":         func(d *api.Dfa) { d.Parts = d.Parts[:1] },
		"no parts":            func(d *api.Dfa) { d.Parts = nil },
		"a short row":         func(d *api.Dfa) { d.Next[1] = []int{0} },
		"a long row":          func(d *api.Dfa) { d.Next[1] = []int{0, 0, 0} },
		"no row":              func(d *api.Dfa) { d.Next[1] = nil },
		"a way too far":       func(d *api.Dfa) { d.Next[1][1] = 2 },
		"a way far too far":   func(d *api.Dfa) { d.Next[0][1] = math.MaxInt },
		"a way below -1":      func(d *api.Dfa) { d.Next[0][0] = -2 },
		"a way far below -1":  func(d *api.Dfa) { d.Next[1][0] = math.MinInt },
		"a tag below -1":      func(d *api.Dfa) { d.Tags[0] = -2 },
		"a tag far below -1":  func(d *api.Dfa) { d.Tags[1] = math.MinInt },
		"a common scalar":     func(d *api.Dfa) { d.Parts[1] = spans('a', 'c') },
		"the same part":       func(d *api.Dfa) { d.Parts[1] = spans('a', 'a') },
		"a span of none":      func(d *api.Dfa) { d.Parts[0] = spans('b', 'a') },
		"touching spans":      func(d *api.Dfa) { d.Parts[1] = spans('b', 'b', 'c', 'c') },
		"falling spans":       func(d *api.Dfa) { d.Parts[1] = spans('e', 'e', 'b', 'b') },
		"a surrogate":         func(d *api.Dfa) { d.Parts[1] = spans('b', 0xd800) },
		"above 10ffff":        func(d *api.Dfa) { d.Parts[1] = spans('b', 'c', 0xe000, 0x110000) },
		"below 0":             func(d *api.Dfa) { d.Parts[0] = spans(-1, 'a') },
		"too many states":     func(d *api.Dfa) { *d = plain(2001, 1) },
		"too many parts":      func(d *api.Dfa) { *d = plain(1, 2001) },
		"too many empty ones": func(d *api.Dfa) { *d = plain(1, 2001); clear(d.Parts) },
		"what is wrong where nobody comes": func(d *api.Dfa) {
			d.Next = append(d.Next, []int{0, 3})
			d.Tags = append(d.Tags, 1)
		},
	} {
		d := sound()
		spoil(&d)
		expectError(t, what, d)
	}
	if _, e := least.Of(sound()); e != api.OK {
		t.Error("what was spoilt was not right ahead of it")
	}
	for _, d := range []api.Dfa{plain(2000, 1), plain(1, 2000), plain(2000, 2000)} {
		if m, e := least.Of(d); e != api.OK || len(m.Tags) != 1 || len(m.Parts) != 0 {
			t.Errorf("the most that may be: %d, %s", e, brief(m))
		}
	}
}
