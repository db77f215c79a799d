package least

import (
	"cmp"
	"slices"

	"glyphcutter/api"
	"glyphcutter/set"
)

// part is what some parts of a machine are together.
type part struct {
	set   []api.Span
	place int // that of one of them
}

// joined is a machine with those of its parts put together that lead from each state to the same, by their least scalars; those that have no scalar, or lead from no state anywhere, are left out.
func joined(d api.Dfa) api.Dfa {
	var parts []part
	for _, places := range alike(waysOf(d)) {
		p := part{set: together(d.Parts, places), place: places[0]}
		if len(p.set) > 0 && leads(d, p.place) {
			parts = append(parts, p)
		}
	}
	slices.SortFunc(parts, func(x, y part) int { return cmp.Compare(x.set[0].Lo, y.set[0].Lo) })
	return byParts(d, parts)
}

// byParts is a machine by other parts.
func byParts(d api.Dfa, parts []part) api.Dfa {
	out := api.Dfa{Tags: d.Tags}
	for _, p := range parts {
		out.Parts = append(out.Parts, p.set)
	}
	for _, row := range d.Next {
		next := make([]int, len(parts))
		for i, p := range parts {
			next[i] = row[p.place]
		}
		out.Next = append(out.Next, next)
	}
	return out
}

// waysOf are texts of where each part leads, state by state, two bytes for each: there are no more than api.MaxStates.
func waysOf(d api.Dfa) [][]byte {
	out := make([][]byte, len(d.Parts))
	for _, row := range d.Next {
		for i, to := range row {
			out[i] = append(out[i], byte(to>>8), byte(to))
		}
	}
	return out
}

// together is the set of the scalars that the parts at some places have.
func together(parts [][]api.Span, places []int) []api.Span {
	var sets [][]api.Span
	for _, i := range places {
		sets = append(sets, parts[i])
	}
	return set.Union(sets...)
}

// leads says whether a part leads from any state anywhere.
func leads(d api.Dfa, part int) bool {
	return slices.ContainsFunc(d.Next, func(row []int) bool { return row[part] != -1 })
}
