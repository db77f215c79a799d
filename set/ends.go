package set

import (
	"cmp"
	"iter"
	"slices"

	"glyphcutter/api"
)

// areas are the two runs of numbers that are scalars, rising; the surrogates lie between them.
var areas = [2]api.Span{
	{Lo: 0, Hi: api.LowGap - 1},
	{Lo: api.HighGap + 1, Hi: api.MaxScalar},
}

// ends goes through the first and the last scalar of each run that spans tell; a span over the surrogates has two.
func ends(l []api.Span) iter.Seq2[int, int] {
	return func(yield func(int, int) bool) {
	next:
		for _, s := range l {
			for _, area := range areas {
				lo, hi := max(s.Lo, area.Lo), min(s.Hi, area.Hi)
				if s.Hi < lo {
					// It tells nothing, or it ends ahead of this area: then it has nothing in a later one either.
					continue next
				}
				if lo <= hi && !yield(lo, hi) {
					return
				}
			}
		}
	}
}

// mark is a place from which on one list tells one run more, or one less.
type mark struct {
	at   int
	side int
	step int
}

// marks are those of both lists, rising.
func marks(a, b []api.Span) []mark {
	var out []mark
	for side, l := range [2][]api.Span{a, b} {
		for lo, hi := range ends(l) {
			out = append(out, mark{at: lo, side: side, step: 1}, mark{at: hi + 1, side: side, step: -1})
		}
	}
	slices.SortFunc(out, func(x, y mark) int { return cmp.Compare(x.at, y.at) })
	return out
}

// combine is the set of the scalars that keep wants, by whether a tells them and whether b does.
// What neither tells is never in it, so keep(false, false) must be false.
func combine(a, b []api.Span, keep func(inA, inB bool) bool) []api.Span {
	var out []api.Span
	var depth [2]int
	open, start := false, 0
	row := marks(a, b)
	for i, m := range row {
		depth[m.side] += m.step
		if i+1 < len(row) && row[i+1].at == m.at {
			// Only when all marks of a place are counted is it known what holds there; so runs that touch are joined.
			continue
		}
		in := keep(depth[0] > 0, depth[1] > 0)
		if in && !open {
			start = m.at
		}
		if !in && open {
			out = append(out, api.Span{Lo: start, Hi: m.at - 1})
		}
		open = in
	}
	return out
}
