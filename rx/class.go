package rx

import (
	"strconv"
	"strings"

	"glyphcutter/api"
	"glyphcutter/props"
	"glyphcutter/set"
	"glyphcutter/utf"
)

// piece is what one sign tells: a scalar, or a class of them by its name.
type piece struct {
	spans []api.Span
	class bool
}

// single is the piece of one scalar.
func single(c int) piece {
	return piece{spans: []api.Span{{Lo: c, Hi: c}}}
}

// class reads items in brackets.
func (r *reader) class() []api.Span {
	r.need("[")
	not := r.take("^")
	var l []api.Span
	for !r.take("]") {
		l = append(l, r.item()...)
	}
	if not {
		return set.Not(l)
	}
	return l
}

// item reads one piece, or two with a stroke between.
func (r *reader) item() []api.Span {
	at := r.at
	a := r.piece()
	if !r.take("-") {
		return a.spans
	}
	b := r.piece()
	if a.class || b.class || b.spans[0].Lo < a.spans[0].Lo {
		panic(fault{errno: api.ErrForm, at: at})
	}
	return []api.Span{{Lo: a.spans[0].Lo, Hi: b.spans[0].Lo}}
}

// piece reads what may stand within a class.
func (r *reader) piece() piece {
	switch {
	case r.sees(oneOf(`\`)):
		return r.escape()
	case r.ended() || r.sees(oneOf("[]^-")):
		panic(r.misplaced())
	}
	return single(r.scalar())
}

// escape reads a stroke, and what stands behind it.
func (r *reader) escape() piece {
	at := r.at
	r.need(`\`)
	switch {
	case r.take("n"):
		return single('\n')
	case r.take("r"):
		return single('\r')
	case r.take("t"):
		return single('\t')
	case r.take("x"):
		return r.byNumber(at)
	case r.take("p"):
		return r.byName(at)
	case r.sees(oneOf(`|()[]{}*+?.\^-`)):
		return single(r.scalar())
	}
	panic(r.misplaced())
}

// byNumber reads a scalar's number in brackets; at is where its sign begins.
func (r *reader) byNumber(at int) piece {
	r.need("{")
	digits := r.some(6, hexDigit())
	r.need("}")
	c, err := strconv.ParseInt(digits, 16, 32)
	if err != nil || len(utf.Encode(int(c))) == 0 {
		panic(fault{errno: api.ErrForm, at: at})
	}
	return single(int(c))
}

// byName reads a class's name in brackets; at is where its sign begins.
func (r *reader) byName(at int) piece {
	r.need("{")
	name, _, found := strings.Cut(r.text[r.at:], "}")
	r.at += len(name)
	if !found {
		panic(r.misplaced())
	}
	r.need("}")
	l, ok := props.Of(name)
	if !ok {
		panic(fault{errno: api.ErrName, at: at})
	}
	return piece{spans: l, class: true}
}
