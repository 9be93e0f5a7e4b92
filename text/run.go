package text

import (
	"iter"

	"serif/api"
	"serif/flatten"
)

// mostColor is the greatest colour.
const mostColor = 255

// bits26 is how many bits of a place in 1/64 pixels tell what is beyond whole ones.
const bits26 = 6

// place is a glyph of a run: the mask that it is drawn by, by how many whole pixels that is put further on, and where the pen is ahead of it, and behind it.
type place struct {
	api.Key
	x    int
	y    int
	from int
	to   int
}

// check refuses a run that may not be.
func check(r api.Run) api.Errno {
	switch {
	case len(r.Codes) > api.MaxRun:
		return api.ErrLong
	case r.Ppem < 1 || r.Ppem > api.MaxPpem:
		return api.ErrPpem
	case beyond(r.X, r.Y) || r.Color < 0 || r.Color > mostColor:
		return api.ErrArg
	}
	return api.OK
}

// beyond tells whether one of these is where the pen may not be.
func beyond(numbers ...int) bool {
	for _, x := range numbers {
		if x < -api.MaxDot || x > api.MaxDot {
			return true
		}
	}
	return false
}

// way goes over the glyphs of a run that may be. The pen may be led too far by any of them.
func (w *Writer) way(r api.Run) iter.Seq[place] {
	return func(yield func(place) bool) {
		scale := api.Scale{Units: w.font.Units(), Ppem: r.Ppem}
		pen := r.X
		// Nothing is refused here: the scale may be, units are of two bytes, and code points have glyphs that there are.
		move := func(units int) {
			dots, _ := flatten.Advance(scale, units)
			pen += dots
		}
		ahead := 0
		for i, code := range r.Codes {
			glyph := w.font.Glyph(code)
			if i > 0 {
				move(w.font.Kern(ahead, glyph))
			}
			p := placeOf(glyph, r.Ppem, pen, r.Y)
			own, _ := w.font.Metric(glyph)
			move(own.Advance)
			p.to = pen
			if !yield(p) {
				return
			}
			ahead = glyph
		}
	}
}

// placeOf is a glyph where the pen is: the whole pixels of that, and the rest. A shift is the floor below 0 too.
func placeOf(glyph, ppem, x, y int) place {
	rest := func(at int) int { return at & (api.One26 - 1) }
	return place{
		Key:  api.Key{Glyph: glyph, Ppem: ppem, PhaseX: rest(x), PhaseY: rest(y)},
		x:    x >> bits26,
		y:    y >> bits26,
		from: x,
	}
}
