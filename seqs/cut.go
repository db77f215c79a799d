package seqs

import (
	"iter"

	"glyphcutter/api"
	"glyphcutter/set"
	"glyphcutter/utf"
)

// lengths are the scalars of one byte, of two, of three and of four.
var lengths = [4]api.Span{
	{Lo: 0, Hi: 0x7f},
	{Lo: 0x80, Hi: 0x7ff},
	{Lo: 0x800, Hi: 0xffff},
	{Lo: 0x10000, Hi: api.MaxScalar},
}

// eachPart goes through the set of what spans tell, cut where scalars have one byte more: how many bytes, and the part.
func eachPart(l []api.Span) iter.Seq2[int, api.Span] {
	return func(yield func(int, api.Span) bool) {
		for _, s := range set.Norm(l) {
			for i, all := range lengths {
				part := api.Span{Lo: max(s.Lo, all.Lo), Hi: min(s.Hi, all.Hi)}
				if part.Lo <= part.Hi && !yield(i+1, part) {
					return
				}
			}
		}
	}
}

// eachRow goes through the rows of what spans tell, rising.
func eachRow(l []api.Span) iter.Seq[[]api.Range] {
	return func(yield func([]api.Range) bool) {
		for n, part := range eachPart(l) {
			stack := []api.Span{part}
			for len(stack) > 0 {
				last := len(stack) - 1
				top := stack[last]
				stack = stack[:last]
				if at, ok := cutAt(top, n); ok {
					// The lower piece lies on top, so that all of its rows come ahead of the rest's.
					stack = append(stack, api.Span{Lo: at, Hi: top.Hi}, api.Span{Lo: top.Lo, Hi: at - 1})
					continue
				}
				if !yield(rowOf(top)) {
					return
				}
			}
		}
	}
}

// cutAt is the scalar at which the second piece of a part of n bytes begins; false, if the part is one row.
func cutAt(part api.Span, n int) (int, bool) {
	m := 1
	for range n - 1 {
		// m scalars share all bytes but their last ones: a part that begins or ends within such a block is no row,
		// unless it lies in that block alone.
		m *= 64
		first, last := part.Lo/m, part.Hi/m
		switch {
		case first == last:
		case part.Lo%m != 0:
			return (first + 1) * m, true
		case part.Hi%m != m-1:
			return last * m, true
		}
	}
	return 0, false
}

// rowOf is the one row of a part that needs no cut.
func rowOf(part api.Span) []api.Range {
	from, to := utf.Encode(part.Lo), utf.Encode(part.Hi)
	out := make([]api.Range, len(from))
	for i := range out {
		out[i] = api.Range{Lo: from[i], Hi: to[i]}
	}
	return out
}
