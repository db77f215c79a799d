package rx

import (
	"slices"

	"glyphcutter/api"
	"glyphcutter/fold"
	"glyphcutter/set"
)

// whole reads all of the text.
func (r *reader) whole() api.Node {
	n := r.alt()
	if !r.ended() {
		panic(r.misplaced())
	}
	return n
}

// alt reads rows with strokes between.
func (r *reader) alt() api.Node {
	kids := []api.Node{r.cat()}
	for r.take("|") {
		kids = append(kids, r.cat())
	}
	return join(api.Or, kids)
}

// cat reads a row, up to what begins no atom.
func (r *reader) cat() api.Node {
	stops := oneOf("|)]}*+?")
	var kids []api.Node
	for !r.ended() && !r.sees(stops) {
		kids = append(kids, r.rep())
	}
	return join(api.Cat, kids)
}

// join is nodes as one: a node by itself stays as it is.
func join(kind uint8, kids []api.Node) api.Node {
	switch len(kids) {
	case 0:
		return api.Node{Kind: api.Empty}
	case 1:
		return kids[0]
	}
	return api.Node{Kind: kind, Kids: kids}
}

// rep reads an atom, and the signs behind it.
func (r *reader) rep() api.Node {
	n := r.atom()
	for {
		least, most, ok := r.times()
		if !ok {
			return n
		}
		n = api.Node{Kind: api.Rep, Kids: []api.Node{n}, Min: least, Max: most}
	}
}

// times reads a sign that says how often; false, if none stands here.
func (r *reader) times() (int, int, bool) {
	switch {
	case r.take("*"):
		return 0, -1, true
	case r.take("+"):
		return 1, -1, true
	case r.take("?"):
		return 0, 1, true
	case r.sees(oneOf("{")) && !r.ahead(1, letter()):
		// With a letter behind it the bracket is a definition's, and begins the next atom.
		least, most := r.bounds()
		return least, most, true
	}
	return 0, 0, false
}

// bounds reads one number in brackets, or two.
func (r *reader) bounds() (int, int) {
	r.need("{")
	at := r.at
	least := r.number()
	most := least
	if r.take(",") {
		most = -1
		if !r.sees(oneOf("}")) {
			most = r.number()
		}
	}
	r.need("}")
	if max(least, most) > api.MaxTimes || most != -1 && most < least {
		panic(fault{errno: api.ErrLong, at: at})
	}
	return least, most
}

// number reads one digit, or two.
func (r *reader) number() int {
	n := 0
	for _, d := range []byte(r.some(2, digit())) {
		n = n*10 + int(d-'0')
	}
	return n
}

// atom reads what a sign may stand behind.
func (r *reader) atom() api.Node {
	switch {
	case r.sees(oneOf("(")):
		return r.group()
	case r.sees(oneOf("{")):
		return r.named()
	case r.sees(oneOf("[")):
		return r.chars(r.class())
	case r.sees(oneOf(`\`)):
		return r.chars(r.escape().spans)
	case r.take("."):
		return r.chars(set.Not(single('\n').spans))
	}
	return r.chars(single(r.scalar()).spans)
}

// chars is the node of one of some scalars.
func (r *reader) chars(l []api.Span) api.Node {
	if r.caseless {
		return api.Node{Kind: api.Chars, Set: fold.Close(l)}
	}
	return api.Node{Kind: api.Chars, Set: set.Norm(l)}
}

// group reads a pattern in brackets.
func (r *reader) group() api.Node {
	if r.deep == api.MaxDeep {
		panic(fault{errno: api.ErrDeep, at: r.at})
	}
	r.need("(")
	outside := r.caseless
	if r.take("?") {
		r.need("i:")
		r.caseless = true
	}
	r.deep++
	n := r.alt()
	r.need(")")
	r.deep--
	r.caseless = outside
	return n
}

// named reads a definition's name, and is its node.
func (r *reader) named() api.Node {
	at := r.at
	r.need("{")
	name := r.some(1, letter())
	name += r.run(len(r.text), either(letter(), digit()))
	r.need("}")
	place := slices.IndexFunc(r.defs, func(d api.Def) bool { return d.Name == name })
	if place < 0 {
		panic(fault{errno: api.ErrName, at: at})
	}
	if r.caseless {
		return closed(r.defs[place].Node)
	}
	return clipped(r.defs[place].Node)
}
