package dfa

import (
	"cmp"
	"slices"
	"sort"

	"glyphcutter/api"
)

// run is a span of a part.
type run struct {
	api.Span
	part int
}

// runs are the spans of some parts, rising.
// A part is looked up here, and not by terms, which goes through all parts: there may be very many, and very much to look up.
type runs []run

// runsOf are those of some parts, each of which is a set.
func runsOf(parts [][]api.Span) runs {
	var out runs
	for i, part := range parts {
		for _, s := range part {
			out = append(out, run{Span: s, part: i})
		}
	}
	slices.SortFunc(out, func(x, y run) int { return cmp.Compare(x.Lo, y.Lo) })
	return out
}

// apart says whether no two have a scalar in common.
func (l runs) apart() bool {
	last := -1
	for _, x := range l {
		if x.Lo <= last {
			return false
		}
		last = x.Hi
	}
	return true
}

// meeting are those that have a scalar in common with a span, if they are apart.
func (l runs) meeting(s api.Span) runs {
	first := sort.Search(len(l), func(i int) bool { return l[i].Hi >= s.Lo })
	end := sort.Search(len(l), func(i int) bool { return l[i].Lo > s.Hi })
	return l[first:end]
}

// which is the part that has a scalar (-1: none), if they are apart.
func (l runs) which(r int) int {
	in := l.meeting(api.Span{Lo: r, Hi: r})
	if len(in) == 0 {
		return -1
	}
	return in[0].part
}
