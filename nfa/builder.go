package nfa

import "glyphcutter/api"

// machine is the states that are laid so far.
type machine struct {
	api.Nfa
}

// state lays a new state, and tells its number.
func (m *machine) state() int {
	m.Edges = append(m.Edges, nil)
	m.Free = append(m.Free, nil)
	m.Tags = append(m.Tags, -1)
	return len(m.Tags) - 1
}

// edge lays an edge. The set is copied for each, as one node may be laid often.
func (m *machine) edge(from, to int, l []api.Span) {
	own := make([]api.Span, len(l))
	copy(own, l)
	m.Edges[from] = append(m.Edges[from], api.Edge{To: to, Set: own})
}

// free lays a free way.
func (m *machine) free(from, to int) {
	m.Free[from] = append(m.Free[from], to)
}

// builder lays patterns, all rows of which were counted.
type builder struct {
	machine
	needs needs
}

// fork lays a pattern behind a new state behind one, and tells where it ends.
func (b *builder) fork(n api.Node, at int) int {
	head := b.state()
	b.free(at, head)
	return b.lay(n, head)
}

// lay lays a pattern behind a state, and tells where it ends.
func (b *builder) lay(n api.Node, at int) int {
	switch n.Kind {
	case api.Chars:
		return b.chars(n.Set, at)
	case api.Cat:
		return b.cat(n.Kids, at)
	case api.Or:
		return b.or(n.Kids, at)
	case api.Rep:
		return b.rep(n, at)
	}
	return at
}

// chars lays one scalar of a set.
func (b *builder) chars(l []api.Span, at int) int {
	end := b.state()
	b.edge(at, end, l)
	return end
}

// cat lays patterns one behind the other.
func (b *builder) cat(l []api.Node, at int) int {
	// Those that are laid in no state are passed over: below shared rows there may be far more of them than states.
	for _, i := range b.needs.of(l).places {
		at = b.lay(l[i], at)
	}
	return at
}

// or lays patterns beside one another.
func (b *builder) or(l []api.Node, at int) int {
	end := b.state()
	for _, kid := range l {
		b.free(b.fork(kid, at), end)
	}
	return end
}

// rep lays a pattern as often as it says.
func (b *builder) rep(n api.Node, at int) int {
	once := func() { at = b.fork(n.Kids[0], at) }
	for range n.Min {
		once()
	}
	end := b.state()
	b.free(at, end)
	if n.Max == -1 {
		at = end
		once()
		b.free(at, end)
		return end
	}
	for range n.Max - n.Min {
		once()
		b.free(at, end)
	}
	return end
}
