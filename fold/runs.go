package fold

import "glyphcutter/api"

// run is scalars that fold by one step: the first goes to another one, each of the rest as far as the first.
type run struct {
	lo int
	hi int
	to int
}

// runs are all scalars that fold to another one; none is in two runs, and what one goes to is in none.
var runs = [13]run{
	{lo: 0x41, hi: 0x5a, to: 0x61},
	{lo: 0xb5, hi: 0xb5, to: 0x3bc},
	// Two runs, for d7 between them is no letter; so with 391 to 3a9, for 3a2.
	{lo: 0xc0, hi: 0xd6, to: 0xe0},
	{lo: 0xd8, hi: 0xde, to: 0xf8},
	{lo: 0x391, hi: 0x3a1, to: 0x3b1},
	{lo: 0x3a3, hi: 0x3a9, to: 0x3c3},
	{lo: 0x3c2, hi: 0x3c2, to: 0x3c3},
	{lo: 0x400, hi: 0x40f, to: 0x450},
	{lo: 0x410, hi: 0x42f, to: 0x430},
	{lo: 0x1e9e, hi: 0x1e9e, to: 0xdf},
	{lo: 0x2126, hi: 0x2126, to: 0x3c9},
	{lo: 0x212a, hi: 0x212a, to: 0x6b},
	{lo: 0x212b, hi: 0x212b, to: 0xe5},
}

// mover tells where the piece of a span goes that is moved; false, if no piece is.
type mover func(s api.Span) (api.Span, bool)

// shift moves what lies between two scalars, both with them.
func shift(lo, hi, step int) mover {
	return func(s api.Span) (api.Span, bool) {
		piece := api.Span{Lo: max(s.Lo, lo), Hi: min(s.Hi, hi)}
		if piece.Lo > piece.Hi {
			return api.Span{}, false
		}
		return api.Span{Lo: piece.Lo + step, Hi: piece.Hi + step}, true
	}
}

// step is how far the run's scalars go.
func (u run) step() int { return u.to - u.lo }

// ahead moves the run's scalars to those that they fold to.
func (u run) ahead() mover { return shift(u.lo, u.hi, u.step()) }

// back moves those that the run's scalars fold to to the run's own.
func (u run) back() mover { return shift(u.lo+u.step(), u.hi+u.step(), -u.step()) }

// gather is l, and what each run moves of it.
func gather(l []api.Span, way func(u run) mover) []api.Span {
	var out []api.Span
	for _, u := range runs {
		move := way(u)
		for _, s := range l {
			if moved, ok := move(s); ok {
				out = append(out, moved)
			}
		}
	}
	return append(out, l...)
}
