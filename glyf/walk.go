package glyf

import (
	"serif/affine"
	"serif/api"
	"serif/compose"
	"serif/outline"
	"serif/simple"
)

// kindComposite is what simple.Kind answers of a composite glyph's bytes.
const kindComposite = 2

// walk is the way from a glyph that is asked for to its parts, to theirs, and so on. Its visits are of all of them, at whichever depth.
type walk struct {
	find   func(glyph int) ([]byte, api.Errno)
	visits int
}

// outline is the outline of a glyph that deep within parts.
func (w *walk) outline(glyph, depth int) ([][]api.Point, api.Errno) {
	b, e := w.find(glyph)
	if e != api.OK {
		return nil, e
	}
	if simple.Kind(b) != kindComposite {
		return simple.Decode(b)
	}
	if depth == api.MaxDepth {
		return nil, api.ErrDepth
	}
	parts, e := compose.Decode(b)
	if e != api.OK {
		return nil, e
	}
	deeper := func(glyph int) ([][]api.Point, api.Errno) { return w.outline(glyph, depth+1) }
	var soFar [][]api.Point
	for _, p := range parts {
		if soFar, e = w.add(soFar, p, deeper); e != api.OK {
			return nil, e
		}
	}
	return soFar, api.OK
}

// add goes to a part, and joins it to what is put together so far.
func (w *walk) add(soFar [][]api.Point, p api.Part, outlineOf func(glyph int) ([][]api.Point, api.Errno)) ([][]api.Point, api.Errno) {
	if w.visits == api.MaxVisits {
		return nil, api.ErrParts
	}
	w.visits++
	o, e := outlineOf(p.Glyph)
	if e != api.OK {
		return nil, e
	}
	if p.Matched {
		o, e = match(soFar, o, p)
	} else {
		o, e = step(o, p)
	}
	if e != api.OK {
		return nil, e
	}
	return outline.Join(soFar, o)
}

// step is a part's outline behind its matrix, further on by its step, which may be behind the matrix too.
func step(o [][]api.Point, p api.Part) ([][]api.Point, api.Errno) {
	dx, dy := p.DX*api.One16, p.DY*api.One16
	if p.Turned {
		x, y, e := affine.Apply(p.M, dx, dy)
		if e != api.OK {
			return nil, e
		}
		dx, dy = x, y
	}
	return outline.Apply(o, p.M, dx, dy)
}

// match is a part's outline behind its matrix, one of its points brought to where one of those so far lies.
func match(soFar, o [][]api.Point, p api.Part) ([][]api.Point, api.Errno) {
	o, e := outline.Apply(o, p.M, 0, 0)
	if e != api.OK {
		return nil, e
	}
	parent, hasParent := pointAt(soFar, p.Parent)
	child, hasChild := pointAt(o, p.Child)
	if !hasParent || !hasChild {
		return nil, api.ErrParts
	}
	return outline.Apply(o, affine.One(), parent.X-child.X, parent.Y-child.Y)
}

// pointAt counts points off, contour by contour, up to the one of that number, or answers false.
func pointAt(o [][]api.Point, number int) (api.Point, bool) {
	for _, c := range o {
		if number < len(c) {
			return c[number], true
		}
		number -= len(c)
	}
	return api.Point{}, false
}
