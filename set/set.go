// Package set is layer 1: see shared/doc/01-set.md.
package set

import (
	"slices"

	"glyphcutter/api"
)

// Norm is the scalars that spans tell as a set: cut at the surrogates, rising, and joined where they overlap or touch.
func Norm(l []api.Span) []api.Span {
	return combine(l, nil, func(inA, inB bool) bool { return inA })
}

// Has says whether r is one of the scalars that spans tell.
func Has(l []api.Span, r int) bool {
	for lo, hi := range ends(l) {
		if lo <= r && r <= hi {
			return true
		}
	}
	return false
}

// Size is how many scalars spans tell.
func Size(l []api.Span) int {
	n := 0
	// Of the set, not of the spans: a scalar that two of them tell counts once.
	for lo, hi := range ends(Norm(l)) {
		n += hi - lo + 1
	}
	return n
}

// Same says whether both tell the same scalars.
func Same(a, b []api.Span) bool {
	return slices.Equal(Norm(a), Norm(b))
}

// Union is the set of the scalars that any of l tells.
func Union(l ...[]api.Span) []api.Span {
	return Norm(slices.Concat(l...))
}

// Inter is the set of the scalars that both tell.
func Inter(a, b []api.Span) []api.Span {
	return combine(a, b, func(inA, inB bool) bool { return inA && inB })
}

// Minus is the set of the scalars that a tells, and b does not.
func Minus(a, b []api.Span) []api.Span {
	return combine(a, b, func(inA, inB bool) bool { return inA && !inB })
}

// Not is the set of all scalars that l does not tell.
func Not(l []api.Span) []api.Span {
	all := []api.Span{{Lo: 0, Hi: api.MaxScalar}}
	return Minus(all, l)
}
