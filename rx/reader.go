package rx

import (
	"slices"
	"strings"

	"glyphcutter/api"
	"glyphcutter/utf"
)

// reader is a pattern's text, how far it is read, and what it is read within.
type reader struct {
	text     string
	at       int
	defs     []api.Def
	deep     int  // brackets that are open
	caseless bool // one of them is without case
}

// among says whether a byte is one of some.
type among func(b byte) bool

// oneOf is the bytes of some signs.
func oneOf(signs string) among {
	return func(b byte) bool { return strings.IndexByte(signs, b) >= 0 }
}

// within is the bytes from one to another one, both with it.
func within(lo, hi byte) among {
	return func(b byte) bool { return lo <= b && b <= hi }
}

// either is the bytes that are among any of some.
func either(some ...among) among {
	return func(b byte) bool {
		return slices.ContainsFunc(some, func(is among) bool { return is(b) })
	}
}

func letter() among { return either(within('a', 'z'), within('A', 'Z')) }

func digit() among { return within('0', '9') }

func hexDigit() among { return either(digit(), within('a', 'f'), within('A', 'F')) }

// ended says whether all is read.
func (r *reader) ended() bool { return r.at == len(r.text) }

// sees says whether one of some bytes stands here; at the end none does.
func (r *reader) sees(is among) bool { return r.ahead(0, is) }

// ahead says whether one of some bytes stands n bytes ahead.
func (r *reader) ahead(n int, is among) bool {
	return r.at+n < len(r.text) && is(r.text[r.at+n])
}

// take reads a sign, if it stands here.
func (r *reader) take(sign string) bool {
	if !strings.HasPrefix(r.text[r.at:], sign) {
		return false
	}
	r.at += len(sign)
	return true
}

// need reads a sign that must stand here.
func (r *reader) need(sign string) {
	if !r.take(sign) {
		panic(r.misplaced())
	}
}

// run reads bytes as long as they are among some, no more than most; perhaps none.
func (r *reader) run(most int, is among) string {
	start := r.at
	for r.at-start < most && r.sees(is) {
		r.at++
	}
	return r.text[start:r.at]
}

// some reads the same, but one byte at least must stand here.
func (r *reader) some(most int, is among) string {
	read := r.run(most, is)
	if read == "" {
		panic(r.misplaced())
	}
	return read
}

// scalar reads the one that stands here: one must.
func (r *reader) scalar() int {
	// All of the text is known to be scalars.
	c, n := utf.Decode([]byte(r.text[r.at:]))
	r.at += n
	return c
}

// misplaced is the fault of what stands here, or of what is missing at the end.
func (r *reader) misplaced() fault {
	return fault{errno: api.ErrForm, at: r.at}
}
