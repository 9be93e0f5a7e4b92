package type2

import (
	"serif/api"
	"serif/fixed"
	"serif/outline"
)

// pen is where the next point counts from, and what was drawn ahead.
type pen struct {
	x        int
	y        int
	contours [][]api.Point
	points   int // also those of contours that will be left out
}

// move begins a contour.
func (p *pen) move(dx, dy int) api.Errno {
	if e := p.goOn(dx, dy); e != api.OK {
		return e
	}
	p.contours = append(p.contours, nil)
	return p.put(api.PointOn)
}

// line draws a line.
func (p *pen) line(dx, dy int) api.Errno { return p.draw(api.PointOn, dx, dy) }

// curve draws a curve of three steps.
func (p *pen) curve(dx1, dy1, dx2, dy2, dx3, dy3 int) api.Errno {
	if e := p.draw(api.PointCubic, dx1, dy1); e != api.OK {
		return e
	}
	if e := p.draw(api.PointCubic, dx2, dy2); e != api.OK {
		return e
	}
	return p.draw(api.PointOn, dx3, dy3)
}

// draw puts a point further on.
func (p *pen) draw(kind, dx, dy int) api.Errno {
	if len(p.contours) == 0 {
		return api.ErrChar
	}
	if e := p.goOn(dx, dy); e != api.OK {
		return e
	}
	return p.put(kind)
}

func (p *pen) goOn(dx, dy int) api.Errno {
	x, e := fixed.Add(p.x, dx)
	if e != api.OK {
		return e
	}
	y, e := fixed.Add(p.y, dy)
	if e != api.OK {
		return e
	}
	p.x, p.y = x, y
	return api.OK
}

// put puts a point where the pen is, behind the last contour.
func (p *pen) put(kind int) api.Errno {
	p.points++
	if p.points > api.MaxPoints {
		return api.ErrPoints
	}
	last := &p.contours[len(p.contours)-1]
	*last = append(*last, api.Point{X: p.x, Y: p.y, Kind: kind})
	return api.OK
}

// outline is all contours in which something was drawn.
func (p *pen) outline() ([][]api.Point, api.Errno) {
	var o [][]api.Point
	for _, c := range p.contours {
		if len(c) > 1 {
			o = append(o, c)
		}
	}
	if e := outline.Check(o); e != api.OK {
		return nil, e
	}
	return o, api.OK
}
