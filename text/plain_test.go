package text_test

import (
	"bytes"
	"slices"
	"testing"

	"serif/api"
	"serif/canvas"
	"serif/compose"
	"serif/font"
	"serif/raster"
	"serif/simple"
	"serif/text"
)

const one = api.One16

// list is things one behind the other.
func list[T any](l ...T) []T { return l }

// must is what is asked for, if nothing is refused.
func must[T any](x T, e api.Errno) T {
	if e != api.OK {
		panic(e)
	}
	return x
}

// block is a rectangle from one corner to the other.
func block(x0, y0, x1, y1 int) []api.Point {
	var c []api.Point
	for _, p := range [][2]int{{x0, y0}, {x1, y0}, {x1, y1}, {x0, y1}} {
		c = append(c, api.Point{X: p[0] * one, Y: p[1] * one, Kind: api.PointOn})
	}
	return c
}

// shape is the bytes of a simple glyph.
func shape(o ...[]api.Point) []byte { return must(simple.Encode(o)) }

// Glyphs of trueParts, by what they are: none that is asked for; a square; a leaf; a space; a part of itself; one that is large; one that stays where it is.
const (
	glyphNone = iota
	glyphSquare
	glyphLeaf
	glyphSpace
	glyphWrong
	glyphLarge
	glyphStill
)

// leaf is an outline of both kinds of points.
func leaf() []api.Point {
	c := block(-30, -100, 400, 500)
	c[1].Kind, c[3].Kind = api.PointQuad, api.PointQuad
	return c
}

// trueParts is a font of units 1000. Its code points are the letters A to G of glyphs 0 to 6, but A has none.
func trueParts() api.FontParts {
	p := api.FontParts{
		Units: 1000,
		Lines: api.Lines{Ascent: 800, Descent: -200},
		Advs:  []api.Metric{{Advance: 450}, {Advance: 510}, {Advance: 333}, {Advance: 250}, {Advance: 100}, {Advance: 4001}, {Advance: 0}},
		Own:   7, Format: 4,
		Kerns: []api.Kern{{Left: 0, Right: 1, Value: -77}, {Left: 1, Right: 1, Value: 13}, {Left: 1, Right: 2, Value: -250}, {Left: 2, Right: 1, Value: 40}, {Left: 3, Right: 3, Value: -32768}, {Left: 6, Right: 3, Value: 32767}},
		Glyphs: list(
			shape(block(50, 0, 400, 700), block(100, 50, 350, 650)), shape(block(0, 0, 500, 500)), shape(leaf()), nil,
			must(compose.Encode(list(compose.Plain(glyphWrong, 0, 0)))), shape(block(-2000, -2000, 2000, 2000)), shape(block(0, 0, 1000, 1000)),
		),
	}
	for glyph := 1; glyph < len(p.Advs); glyph++ {
		p.Codes = append(p.Codes, api.Pair{Code: 'A' + glyph, Glyph: glyph})
	}
	return p
}

// cffParts is a font of charstrings, units 100: A has no glyph, B is a triangle as wide as a draw says, C calls itself.
func cffParts() api.FontParts {
	return api.FontParts{
		Units: 100,
		Advs:  []api.Metric{{Advance: 40}, {Advance: 70}, {Advance: 30}},
		Own:   3, Format: 12,
		Codes: []api.Pair{{Code: 'B', Glyph: 1}, {Code: 'C', Glyph: 2}},
		Kerns: []api.Kern{{Left: 1, Right: 1, Value: -9}},
		Cff: api.CffParts{
			Codes: list(
				[]byte{149, 139, 21, 189, 199, 89, 6, 14},
				[]byte{139, 139, 21, 12, 23, 239, 12, 24, 219, 5, 139, 89, 5, 14}, // 0 0 move; a draw times 100, 80, line; 0 -50 line
				[]byte{32, 10, 14},
			),
			Families: list(api.Family{Local: [][]byte{{32, 10, 11}}}),
			Names:    list(0, 1, 2),
		},
	}
}

// fontOf is a font of parts that may be.
func fontOf(t *testing.T, p api.FontParts) *font.Font {
	t.Helper()
	b, e := font.Build(p)
	if e != api.OK {
		t.Fatal("Build", e)
	}
	f, e := font.Load(b)
	if e != api.OK {
		t.Fatal("Load", e)
	}
	return f
}

// writerOf is a writer that may be.
func writerOf(t *testing.T, f *font.Font, draws []int, budget int) *text.Writer {
	t.Helper()
	w, e := text.New(f, draws, budget)
	if w == nil || e != api.OK {
		t.Fatal("New", w, e)
	}
	return w
}

// canvasOf is a canvas of drawn stripes.
func canvasOf(t *testing.T, width, height int) *canvas.Canvas {
	t.Helper()
	v, e := canvas.New(width, height, 200)
	if e != api.OK {
		t.Fatal("canvas", e)
	}
	for x := 0; x < width; x += 3 {
		v.Fill(api.Box{X0: x, X1: x + 1, Y1: height}, 7*x%256)
	}
	return v
}

func sameMask(a, b api.Mask) bool { return a.Box == b.Box && bytes.Equal(a.Rows, b.Rows) }

// floorDiv is the floor of a quotient; nearest the nearest whole number to it, of two the greater one.
func floorDiv(a, b int) int {
	q := a / b
	if q*b > a {
		q--
	}
	return q
}

func nearest(a, b int) int { return floorDiv(2*a+b, 2*b) }

// plain is a writer as the chapter tells it: what is kept is in a list, what was asked for last ahead.
type plain struct {
	parts  api.FontParts
	font   *font.Font
	draws  []int
	budget int
	keys   []api.Key
	masks  []api.Mask
	found  int
	lacked int
}

func (p *plain) held() int {
	n := 0
	for _, m := range p.masks {
		n += 64 + len(m.Rows)
	}
	return n
}

func (p *plain) shrink() {
	for p.held() > p.budget {
		last := len(p.keys) - 1
		p.keys, p.masks = p.keys[:last], p.masks[:last]
	}
}

func (p *plain) render(k api.Key) (api.Mask, api.Errno) {
	if i := slices.Index(p.keys, k); i >= 0 {
		p.found++
		m := p.masks[i]
		p.keys, p.masks = slices.Delete(p.keys, i, i+1), slices.Delete(p.masks, i, i+1)
		p.keys, p.masks = slices.Insert(p.keys, 0, k), slices.Insert(p.masks, 0, m)
		return m, api.OK
	}
	p.lacked++
	m, e := p.font.Mask(k, p.draws)
	if e == api.OK && 64+len(m.Rows) <= p.budget {
		p.keys, p.masks = slices.Insert(p.keys, 0, k), slices.Insert(p.masks, 0, m)
		p.shrink()
	}
	return m, e
}

func (p *plain) glyph(code int) int {
	for _, x := range p.parts.Codes {
		if x.Code == code {
			return x.Glyph
		}
	}
	return 0
}

func (p *plain) kern(left, right int) int {
	for _, x := range p.parts.Kerns {
		if x.Left == left && x.Right == right {
			return x.Value
		}
	}
	return 0
}

// spot is a glyph, and the dots where the pen is.
type spot struct {
	glyph int
	x     int
}

// way is where each glyph of a run is drawn, and where the pen is in the end.
func (p *plain) way(r api.Run) ([]spot, int, api.Errno) {
	within := func(x int) bool { return -1<<20 <= x && x <= 1<<20 }
	switch {
	case len(r.Codes) > 1024:
		return nil, 0, api.ErrLong
	case r.Ppem < 1 || r.Ppem > 2048:
		return nil, 0, api.ErrPpem
	case !within(r.X) || !within(r.Y) || r.Color < 0 || r.Color > 255:
		return nil, 0, api.ErrArg
	}
	var l []spot
	pen := r.X
	for i, code := range r.Codes {
		g := p.glyph(code)
		if i > 0 {
			pen += nearest(p.kern(p.glyph(r.Codes[i-1]), g)*r.Ppem*64, p.parts.Units)
		}
		if !within(pen) {
			return nil, 0, api.ErrOver
		}
		l = append(l, spot{g, pen})
		pen += nearest(p.parts.Advs[g].Advance*r.Ppem*64, p.parts.Units)
		if !within(pen) {
			return nil, 0, api.ErrOver
		}
	}
	return l, pen, api.OK
}

// sheet is a canvas's pixels.
type sheet struct {
	width, height int
	pixels        []byte
}

func sheetOf(v *canvas.Canvas) sheet {
	width, height := v.Size()
	return sheet{width, height, v.Bytes()}
}

// draw draws a run pixel by pixel.
func (p *plain) draw(s sheet, r api.Run) (api.Drew, api.Errno) {
	spots, end, e := p.way(r)
	if e != api.OK {
		return api.Drew{}, e
	}
	var masks []api.Mask
	for _, x := range spots {
		m, e := p.render(api.Key{Glyph: x.glyph, Ppem: r.Ppem, PhaseX: x.x - 64*floorDiv(x.x, 64), PhaseY: r.Y - 64*floorDiv(r.Y, 64)})
		if e != api.OK {
			return api.Drew{}, e
		}
		masks = append(masks, m)
	}
	d := api.Drew{X: end, Glyphs: len(r.Codes)}
	for i, m := range masks {
		dx, dy := floorDiv(spots[i].x, 64), floorDiv(r.Y, 64)
		for y := max(0, m.Box.Y0+dy); y < min(s.height, m.Box.Y1+dy); y++ {
			for x := max(0, m.Box.X0+dx); x < min(s.width, m.Box.X1+dx); x++ {
				by, at := raster.At(m, x-dx, y-dy), &s.pixels[y*s.width+x]
				*at = byte((int(*at)*(255-by) + r.Color*by + 127) / 255)
				if d.Box == (api.Box{}) {
					d.Box = api.Box{X0: x, Y0: y, X1: x + 1, Y1: y + 1}
				}
				d.Box = api.Box{X0: min(d.Box.X0, x), Y0: min(d.Box.Y0, y), X1: max(d.Box.X1, x+1), Y1: max(d.Box.Y1, y+1)}
			}
		}
	}
	return d, api.OK
}

// both is a writer, and the plain one that it is held against; a canvas, and its pixels.
type both struct {
	w *text.Writer
	p *plain
	v *canvas.Canvas
	s sheet
}

func bothOf(t *testing.T, parts api.FontParts, draws []int, budget, width, height int) both {
	t.Helper()
	f, v := fontOf(t, parts), canvasOf(t, width, height)
	return both{writerOf(t, f, draws, budget), &plain{parts: parts, font: f, draws: slices.Clone(draws), budget: budget}, v, sheetOf(v)}
}

// alike asks that all that can be told of them is the same.
func (b both) alike(t *testing.T, what ...any) {
	t.Helper()
	found, lacked := b.w.Hits()
	if found != b.p.found || lacked != b.p.lacked || b.w.Held() != b.p.held() {
		t.Fatal(what, "hits", found, lacked, "held", b.w.Held(), "should be", b.p.found, b.p.lacked, b.p.held())
	}
	if !bytes.Equal(b.v.Bytes(), b.s.pixels) {
		t.Fatal(what, "the canvas is another one")
	}
}

// draw draws a run on both, and answers what is told of it.
func (b both) draw(t *testing.T, r api.Run) (api.Drew, api.Errno) {
	t.Helper()
	codes := slices.Clone(r.Codes)
	d, e := b.w.Draw(b.v, r)
	want, wantE := b.p.draw(b.s, r)
	if d != want || e != wantE {
		t.Fatal("Draw", r, d, e, "should be", want, wantE)
	}
	if !slices.Equal(codes, r.Codes) {
		t.Fatal("changed", codes, r.Codes)
	}
	b.alike(t, "Draw", r, e)
	return d, e
}

// measure measures a run by both.
func (b both) measure(t *testing.T, r api.Run) (int, api.Errno) {
	t.Helper()
	x, e := b.w.Measure(r)
	_, want, wantE := b.p.way(r)
	if x != want || e != wantE {
		t.Fatal("Measure", r, x, e, "should be", want, wantE)
	}
	b.alike(t, "Measure", r)
	return x, e
}

// render renders a key by both.
func (b both) render(t *testing.T, k api.Key) (api.Mask, api.Errno) {
	t.Helper()
	m, e := b.w.Render(k)
	want, wantE := b.p.render(k)
	if !sameMask(m, want) || e != wantE {
		t.Fatal("Render", k, m, e, "should be", want, wantE)
	}
	b.alike(t, "Render", k)
	return m, e
}

// resize gives both another budget.
func (b both) resize(t *testing.T, budget int) {
	t.Helper()
	if e := b.w.Resize(budget); e != api.OK {
		t.Fatal("Resize", budget, e)
	}
	b.p.budget = budget
	b.p.shrink()
	b.alike(t, "Resize", budget)
}
