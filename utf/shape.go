package utf

// shape is what a lead byte says of its scalar: its first bits, how many bytes come behind, and what the next one may be.
type shape struct {
	bits int
	more int
	lo   byte
	hi   byte
}

// shapeOf is the shape that a lead byte has; false, if no scalar's bytes begin with it.
func shapeOf(lead byte) (shape, bool) {
	bits := int(lead)
	switch {
	case lead < 0x80:
		return shape{bits: bits}, true
	case lead < 0xc2:
		// 80 to bf only go on; c0 and c1 would lead scalars below 80, which have one byte.
		return shape{}, false
	case lead < 0xe0:
		return shape{bits: bits & 0x1f, more: 1, lo: 0x80, hi: 0xbf}, true
	case lead == 0xe0:
		// Below a0 lie scalars of fewer bytes.
		return shape{bits: bits & 0x0f, more: 2, lo: 0xa0, hi: 0xbf}, true
	case lead == 0xed:
		// Above 9f lie the surrogates.
		return shape{bits: bits & 0x0f, more: 2, lo: 0x80, hi: 0x9f}, true
	case lead < 0xf0:
		return shape{bits: bits & 0x0f, more: 2, lo: 0x80, hi: 0xbf}, true
	case lead == 0xf0:
		// Below 90 lie scalars of fewer bytes.
		return shape{bits: bits & 0x07, more: 3, lo: 0x90, hi: 0xbf}, true
	case lead < 0xf4:
		return shape{bits: bits & 0x07, more: 3, lo: 0x80, hi: 0xbf}, true
	case lead == 0xf4:
		// Above 8f lie numbers above 10ffff.
		return shape{bits: bits & 0x07, more: 3, lo: 0x80, hi: 0x8f}, true
	}
	return shape{}, false
}

// takes says whether c may come at a place behind the lead byte, which is at 0.
func (s shape) takes(at int, c byte) bool {
	if at == 1 {
		return s.lo <= c && c <= s.hi
	}
	return 0x80 <= c && c <= 0xbf
}
