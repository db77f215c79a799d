package least

import "slices"

// back tells from which states each part leads to one.
// What leads nowhere leads to one state more, the last one, and that leads to itself.
type back []column

// column is the states by where one part leads from them.
type column struct {
	from  []int
	begin []int // where those begin in from that lead to each state; and where the last of them end
}

// backOf is that of a machine with some parts, by its rows.
func backOf(next [][]int, parts int) back {
	var out back
	for part := range parts {
		out = append(out, columnOf(next, part))
	}
	return out
}

func columnOf(next [][]int, part int) column {
	nowhere := len(next)
	to := slices.Repeat([]int{nowhere}, nowhere+1)
	for from, row := range next {
		if row[part] != -1 {
			to[from] = row[part]
		}
	}
	c := column{from: make([]int, len(to)), begin: make([]int, len(to)+1)}
	for _, state := range to {
		c.begin[state+1]++
	}
	for state := range to {
		c.begin[state+1] += c.begin[state]
	}
	free := slices.Clone(c.begin)
	for from, state := range to {
		c.from[free[state]] = from
		free[state]++
	}
	return c
}

// leading are the states from which a part leads to one.
func (b back) leading(part, to int) []int {
	c := b[part]
	return c.from[c.begin[to]:c.begin[to+1]]
}
