package text_test

import (
	"bytes"
	"math/rand"
	"slices"
	"testing"

	"serif/api"
	"serif/canvas"
	"serif/exact"
	"serif/flatten"
	"serif/font"
	"serif/raster"
	"serif/sfnt"
)

// TestTenExamples of the whole, as the document counts them.
func TestTenExamples(t *testing.T) {
	if f, e := font.Load(nil); f != nil || e != api.ErrShort {
		t.Error(1, f, e)
	}
	b := must(font.Build(trueParts()))
	_, tables, _ := sfnt.Parse(b)
	blobs := list(api.Blob{Tag: "fvar"})
	for _, x := range tables {
		blobs = append(blobs, api.Blob{Tag: x.Tag, Data: must(sfnt.Find(b, x.Tag))})
	}
	if f, e := font.Load(must(sfnt.Build(api.VersionOne, blobs))); f != nil || e != api.ErrVariable {
		t.Error(1, f, e)
	}
	f := fontOf(t, trueParts())
	w := writerOf(t, f, nil, 1000)
	if f.Glyph('Z') != 0 || w.Glyph('Z') != 0 {
		t.Error(2, f.Glyph('Z'), w.Glyph('Z'))
	}
	v, u := canvasOf(t, 20, 20), canvasOf(t, 20, 20)
	one, e1 := w.Draw(v, api.Run{Codes: codes("YZ"), Y: 800, Ppem: 10, Color: 9})
	two, e2 := w.Draw(u, api.Run{Codes: codes("AA"), Y: 800, Ppem: 10, Color: 9})
	if one != two || e1 != api.OK || e2 != api.OK || !bytes.Equal(v.Bytes(), u.Bytes()) || one.Glyphs != 2 {
		t.Error(2, one, e1, two, e2)
	}
	if _, e := f.Outline(glyphWrong, nil); e != api.ErrDepth {
		t.Error(3, e)
	}
	endless := cffParts()
	endless.Cff.Codes[2] = bytes.Repeat(list[byte](139, 12, 18), 10001)
	if _, e := writerOf(t, fontOf(t, endless), nil, 0).Render(api.Key{Glyph: 2, Ppem: 10}); e != api.ErrSteps {
		t.Error(4, e)
	}
	if flat, e := f.Flat(api.Key{Glyph: glyphSquare, Ppem: 10}, nil); e != api.OK || flat[0][0] != (api.Dot{X: 320}) {
		t.Error(5, flat, e)
	}
	if m, e := w.Render(api.Key{Glyph: glyphSquare, Ppem: 2}); e != api.OK || m.Box != (api.Box{Y0: -1, X1: 1}) || !bytes.Equal(m.Rows, list[byte](255)) {
		t.Error(6, m, e)
	}
	if m, e := w.Render(api.Key{Glyph: glyphSquare, Ppem: 2, PhaseX: 32}); e != api.OK || !bytes.Equal(m.Rows, list[byte](128, 128)) {
		t.Error(7, m, e)
	}
	nothing := writerOf(t, f, nil, 0)
	x, y := canvasOf(t, 20, 20), canvasOf(t, 20, 20)
	run := api.Run{Codes: codes("BCBCA"), X: -100, Y: 800, Ppem: 12, Color: 250}
	one, _ = nothing.Draw(x, run)
	two, _ = w.Draw(y, run)
	if nothing.Held() != 0 || one != two || !bytes.Equal(x.Bytes(), y.Bytes()) {
		t.Error(8, one, two)
	}
	kept := x.Bytes()
	run.Codes = codes("BE")
	if d, e := nothing.Draw(x, run); d != (api.Drew{}) || e != api.ErrDepth || !bytes.Equal(x.Bytes(), kept) {
		t.Error(9, d, e)
	}
	run.Codes = codes("B")
	if d, e := nothing.Draw(x, run); e != api.OK || d.Box.X0 != 0 || d.Box.X1 != 5 || bytes.Equal(x.Bytes(), kept) {
		t.Error(10, d, e)
	}
}

// TestCovering: bytes of masks say what convex glyphs cover, but for what lines that touch a pixel leave open.
func TestCovering(t *testing.T) {
	parts := trueParts()
	point := func(x, y, kind int) api.Point { return api.Point{X: x * one, Y: y * one, Kind: kind} }
	round := list(point(500, 0, api.PointQuad), point(1000, 0, api.PointQuad), point(1000, 700, api.PointQuad), point(0, 700, api.PointQuad), point(0, 0, api.PointQuad))
	slim := list(point(0, 0, api.PointOn), point(900, 33, api.PointOn), point(20, 700, api.PointOn))
	parts.Glyphs[glyphLarge], parts.Glyphs[glyphStill] = shape(round), shape(slim)
	f := fontOf(t, parts)
	draw := rand.New(rand.NewSource(3))
	pixels := 0
	for range 40 {
		k := api.Key{Glyph: list(glyphSquare, glyphLarge, glyphStill)[draw.Intn(3)], Ppem: 2 + draw.Intn(18), PhaseX: draw.Intn(64), PhaseY: draw.Intn(64)}
		flat, mask := must(f.Flat(k, nil)), must(f.Mask(k, nil))
		if mask.Box != must(flatten.Box(flat)) {
			t.Fatal(k, mask.Box)
		}
		if !exact.Convex(flat) {
			continue
		}
		for y := mask.Box.Y0 - 1; y <= mask.Box.Y1; y++ {
			for x := mask.Box.X0 - 1; x <= mask.Box.X1; x++ {
				tally := must(exact.Tally(flat, x, y))
				by := 8192 * raster.At(mask, x, y)
				if by < 255*(32*tally.Inside-384*tally.Lines)-4096-8192 || by > 255*(32*(tally.Inside+tally.Touched)+384*tally.Lines)+4096 {
					t.Fatal(k, x, y, by, tally)
				}
				pixels++
			}
		}
	}
	if pixels < 1000 {
		t.Error("few were asked for", pixels)
	}
}

// TestFold: a run is its glyphs' masks, put one by one where the pen is.
func TestFold(t *testing.T) {
	parts := trueParts()
	f := fontOf(t, parts)
	draw := rand.New(rand.NewSource(5))
	for range 200 {
		r := drawnRun(draw)
		r.Codes = slices.DeleteFunc(r.Codes, func(code int) bool { return code == 'E' || code == 'F' })
		v := canvasOf(t, 25, 18)
		u := v.Fork()
		d, e := writerOf(t, f, nil, draw.Intn(2000)).Draw(v, r)
		if e != api.OK {
			continue
		}
		pen, ahead := r.X, -1
		scale := api.Scale{Units: 1000, Ppem: r.Ppem}
		for _, code := range r.Codes {
			g := f.Glyph(code)
			if ahead >= 0 {
				pen += must(flatten.Advance(scale, f.Kern(ahead, g)))
			}
			m := must(f.Mask(api.Key{Glyph: g, Ppem: r.Ppem, PhaseX: (pen%64 + 64) % 64, PhaseY: (r.Y%64 + 64) % 64}, nil))
			must(u.Blend(m, floorDiv(pen, 64), floorDiv(r.Y, 64), r.Color))
			pen += must(flatten.Advance(scale, must(f.Metric(g)).Advance))
			ahead = g
		}
		if d.X != pen || !bytes.Equal(v.Bytes(), u.Bytes()) {
			t.Fatal(r, d, pen)
		}
	}
}

// TestBoxStays: pixels outside the box that is told stay as they were, and so do canvases that a run was not drawn onto.
func TestBoxStays(t *testing.T) {
	f := fontOf(t, trueParts())
	draw := rand.New(rand.NewSource(6))
	for range 200 {
		v := must(canvas.New(1+draw.Intn(25), 1+draw.Intn(18), draw.Intn(256)))
		u := v.Fork()
		r := drawnRun(draw)
		d, _ := writerOf(t, f, nil, 100).Draw(v, r)
		width, height := v.Size()
		for y := range height {
			for x := range width {
				inside := d.Box.X0 <= x && x < d.Box.X1 && d.Box.Y0 <= y && y < d.Box.Y1
				if !inside && v.At(x, y) != u.At(x, y) {
					t.Fatal(r, d, x, y)
				}
			}
		}
	}
}
