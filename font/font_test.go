package font_test

import (
	"bytes"
	"math"
	"math/rand"
	"slices"
	"testing"

	"serif/api"
	"serif/compose"
	"serif/flatten"
	"serif/font"
	"serif/raster"
)

// sameOutline and sameFlat hold lists of lists against one another.
func sameOutline(a, b [][]api.Point) bool { return slices.EqualFunc(a, b, slices.Equal) }

func sameFlat(a, b [][]api.Dot) bool { return slices.EqualFunc(a, b, slices.Equal) }

func sameMask(a, b api.Mask) bool { return a.Box == b.Box && bytes.Equal(a.Rows, b.Rows) }

// answersAlike asks that two fonts answer the same of a key; nothing beside an error; and what the layers below say of one another's answers.
func answersAlike(t *testing.T, f, g *font.Font, k api.Key, draws []int) {
	t.Helper()
	m, e := f.Metric(k.Glyph)
	n, d := g.Metric(k.Glyph)
	if m != n || e != d || (e != api.OK) != (k.Glyph < 0 || k.Glyph >= f.Glyphs()) || e != api.OK && (e != api.ErrGlyph || m != api.Metric{}) {
		t.Fatal(k, m, e, n, d)
	}
	o, e := f.Outline(k.Glyph, draws)
	p, d := g.Outline(k.Glyph, draws)
	if !sameOutline(o, p) || e != d || e != api.OK && len(o) > 0 {
		t.Fatal(k, o, e, p, d)
	}
	flat, e := f.Flat(k, draws)
	other, d := g.Flat(k, draws)
	if !sameFlat(flat, other) || e != d || e != api.OK && len(flat) > 0 {
		t.Fatal(k, flat, e, other, d)
	}
	mask, e := f.Mask(k, draws)
	another, d := g.Mask(k, draws)
	if !sameMask(mask, another) || e != d || e != api.OK && !sameMask(mask, api.Mask{}) || raster.Check(mask) != api.OK {
		t.Fatal(k, mask, e, another, d)
	}
}

// TestFacts: what head, maxp, hhea say, and which kind of outlines there are.
func TestFacts(t *testing.T) {
	f := loaded(t, built(t, trueParts()))
	if f.Glyphs() != 6 || f.Units() != 1000 || f.Cff() || f.Lines() != (api.Lines{Ascent: 800, Descent: -200, Gap: 50, Metrics: 4}) {
		t.Error(f.Glyphs(), f.Units(), f.Cff(), f.Lines())
	}
	f = loaded(t, built(t, cffParts()))
	if f.Glyphs() != 4 || f.Units() != 500 || !f.Cff() || f.Lines() != (api.Lines{Ascent: 400, Descent: -100, Metrics: 4}) {
		t.Error(f.Glyphs(), f.Units(), f.Cff(), f.Lines())
	}
}

// TestGlyph: code points that cmap does not name have glyph 0, and so have those that no code point is.
func TestGlyph(t *testing.T) {
	for _, p := range []api.FontParts{trueParts(), cffParts()} {
		f := loaded(t, built(t, p))
		want := map[int]int{}
		for _, pair := range p.Codes {
			want[pair.Code] = pair.Glyph
		}
		for code := range 300 {
			if f.Glyph(code) != want[code] {
				t.Error(code, f.Glyph(code), want[code])
			}
		}
		for _, code := range []int{-1, -65, 0xFFFF, 0x10000, 0x10041, 0x1F5FF, 0x1F600, 0x1F601, 0x10FFFF, 0x110000, 1<<32 + 65, math.MaxInt, math.MinInt} {
			if f.Glyph(code) != want[code] {
				t.Error(code, f.Glyph(code), want[code])
			}
		}
	}
	// A glyph that there is not is none.
	p := trueParts()
	p.Codes = []api.Pair{{Code: 65, Glyph: 5}, {Code: 66, Glyph: 6}, {Code: 67, Glyph: 65535}}
	f := loaded(t, built(t, p))
	if f.Glyph(65) != 5 || f.Glyph(66) != 0 || f.Glyph(67) != 0 {
		t.Error(f.Glyph(65), f.Glyph(66), f.Glyph(67))
	}
}

func TestMetricAndKern(t *testing.T) {
	for _, p := range []api.FontParts{trueParts(), cffParts()} {
		p.Kerns = []api.Kern{{Left: 1, Right: 2, Value: -50}, {Left: 2, Right: 1, Value: 30}, {Left: 9, Right: 0, Value: 32767}, {Left: 65535, Right: 65535, Value: -32768}}
		f := loaded(t, built(t, p))
		for glyph, want := range p.Advs {
			if m, e := f.Metric(glyph); m != want || e != api.OK {
				t.Error(glyph, m, e, want)
			}
		}
		for _, glyph := range []int{-1, len(p.Advs), 65535, 65536, math.MaxInt, math.MinInt} {
			if m, e := f.Metric(glyph); m != (api.Metric{}) || e != api.ErrGlyph {
				t.Error(glyph, m, e)
			}
		}
		for _, k := range p.Kerns {
			if f.Kern(k.Left, k.Right) != k.Value {
				t.Error(k, f.Kern(k.Left, k.Right))
			}
		}
		for _, k := range [][2]int{{0, 0}, {1, 1}, {2, 2}, {1, 3}, {0, 9}, {-1, 2}, {1, -2}, {65537, 2}, {math.MaxInt, math.MinInt}} {
			if f.Kern(k[0], k[1]) != 0 {
				t.Error(k, f.Kern(k[0], k[1]))
			}
		}
	}
}

// TestOutline of glyf: whatever the draws.
func TestOutline(t *testing.T) {
	f := loaded(t, built(t, trueParts()))
	for _, draws := range [][]int{nil, {}, {1, 2, 3}} {
		for glyph, want := range outlines()[:5] {
			if o, e := f.Outline(glyph, draws); !sameOutline(o, want) || e != api.OK {
				t.Error(glyph, o, e, want)
			}
		}
		if o, e := f.Outline(5, draws); len(o) > 0 || e != api.ErrDepth {
			t.Error("a part of itself", o, e)
		}
	}
	wrongGlyphs(t, f)
	// Parts of glyphs that there are not, and bytes that are no glyph.
	p := trueParts()
	p.Glyphs[5], p.Glyphs[4] = parts(compose.Plain(6, 0, 0)), list[byte](0, 1, 2)
	f = loaded(t, built(t, p))
	if o, e := f.Outline(5, nil); len(o) > 0 || e != api.ErrGlyph {
		t.Error(o, e)
	}
	if o, e := f.Outline(4, nil); len(o) > 0 || e != api.ErrGlyf {
		t.Error(o, e)
	}
}

// wrongGlyphs asks of glyphs that there are not, at sizes that there are not: glyphs come first.
func wrongGlyphs(t *testing.T, f *font.Font) {
	t.Helper()
	for _, glyph := range []int{-1, f.Glyphs(), f.Glyphs() + 1, 65535, 1 << 16, 1 << 32, math.MaxInt, math.MinInt} {
		if o, e := f.Outline(glyph, nil); len(o) > 0 || e != api.ErrGlyph {
			t.Error(glyph, o, e)
		}
		for _, k := range []api.Key{{Glyph: glyph, Ppem: 10}, {Glyph: glyph}, {Glyph: glyph, Ppem: 10, PhaseX: 64}} {
			if flat, e := f.Flat(k, nil); len(flat) > 0 || e != api.ErrGlyph {
				t.Error(k, flat, e)
			}
			if m, e := f.Mask(k, nil); !sameMask(m, api.Mask{}) || e != api.ErrGlyph {
				t.Error(k, m, e)
			}
		}
	}
}

// TestCharstrings: an outline of a CFF hangs on the draws, where a charstring asks for random numbers.
func TestCharstrings(t *testing.T) {
	f := loaded(t, built(t, cffParts()))
	line := func(x int) [][]api.Point {
		return contours(list(on(0, 0), api.Point{X: x, Kind: api.PointOn}))
	}
	for _, x := range []struct {
		glyph int
		draws []int
		want  [][]api.Point
	}{
		{0, nil, line(100 * one)},
		{0, list(7), line(100 * one)},
		{1, nil, contours(list(on(0, 0), on(500, 0), on(500, 500), on(0, 500)))},
		{2, nil, line(65536)},
		{2, list(0), line(1)},
		{2, list(99, 5), line(100)},
		{2, list(-1), line(65536)},
		{2, list(65536 + 41), line(42)},
	} {
		draws := slices.Clone(x.draws)
		for range 2 {
			if o, e := f.Outline(x.glyph, draws); !sameOutline(o, x.want) || e != api.OK {
				t.Error(x, o, e)
			}
		}
		if !slices.Equal(draws, x.draws) {
			t.Error("changed", draws)
		}
		flat, e := f.Flat(api.Key{Glyph: x.glyph, Ppem: 300, PhaseX: 5}, draws)
		want := must(flatten.Flatten(api.Scale{Units: 500, Ppem: 300, PhaseX: 5}, x.want))
		if !sameFlat(flat, want) || e != api.OK {
			t.Error(x, flat, e, want)
		}
		if m, e := f.Mask(api.Key{Glyph: x.glyph, Ppem: 300, PhaseX: 5}, draws); !sameMask(m, must(raster.Fill(want))) || e != api.OK {
			t.Error(x, m, e)
		}
	}
	if o, e := f.Outline(3, nil); len(o) > 0 || e != api.ErrSubr {
		t.Error("too deep", o, e)
	}
	wrongGlyphs(t, f)
}

// TestEndless: a charstring that goes on and on.
func TestEndless(t *testing.T) {
	p := cffParts()
	p.Cff.Codes[1] = append(bytes.Repeat(list[byte](139, 12, 18), 10000), 14)
	p.Cff.Codes[2] = append(bytes.Repeat(list[byte](139, 12, 18), 9999), 14)
	f := loaded(t, built(t, p))
	if o, e := f.Outline(1, nil); len(o) > 0 || e != api.ErrSteps {
		t.Error(o, e)
	}
	if o, e := f.Outline(2, nil); len(o) > 0 || e != api.OK {
		t.Error(o, e)
	}
}

// TestFlat: units, size and phases go into the scale.
func TestFlat(t *testing.T) {
	f := loaded(t, built(t, trueParts()))
	flat, e := f.Flat(api.Key{Glyph: 1, Ppem: 10}, nil)
	if want := list(list(api.Dot{X: 320}, api.Dot{X: 320, Y: -320}, api.Dot{Y: -320}, api.Dot{})); !sameFlat(flat, want) || e != api.OK {
		t.Error(flat, e)
	}
	flat, e = f.Flat(api.Key{Glyph: 1, Ppem: 2, PhaseX: 63, PhaseY: 1}, nil)
	if want := list(list(api.Dot{X: 127, Y: 1}, api.Dot{X: 127, Y: -63}, api.Dot{X: 63, Y: -63}, api.Dot{X: 63, Y: 1})); !sameFlat(flat, want) || e != api.OK {
		t.Error(flat, e)
	}
	draw := rand.New(rand.NewSource(29))
	for range 500 {
		k := api.Key{Glyph: draw.Intn(5), Ppem: 1 + draw.Intn(100), PhaseX: draw.Intn(64), PhaseY: draw.Intn(64)}
		want := must(flatten.Flatten(api.Scale{Units: 1000, Ppem: k.Ppem, PhaseX: k.PhaseX, PhaseY: k.PhaseY}, outlines()[k.Glyph]))
		if flat, e := f.Flat(k, nil); !sameFlat(flat, want) || e != api.OK {
			t.Error(k, flat, e, want)
		}
		if m, e := f.Mask(k, nil); !sameMask(m, must(raster.Fill(want))) || e != api.OK {
			t.Error(k, m, e)
		}
	}
}

// TestSizes: what flatten and raster refuse, behind what Outline does.
func TestSizes(t *testing.T) {
	p := trueParts()
	p.Glyphs[4] = shape(block(-16000, -16000, 16000, 16000))
	f := loaded(t, built(t, p))
	for _, x := range []struct {
		k    api.Key
		flat api.Errno
		mask api.Errno
	}{
		{api.Key{Glyph: 1, Ppem: 1}, api.OK, api.OK},
		{api.Key{Glyph: 1, Ppem: 2048, PhaseX: 63, PhaseY: 63}, api.OK, api.OK},
		{api.Key{Glyph: 1, Ppem: 0}, api.ErrPpem, api.ErrPpem},
		{api.Key{Glyph: 1, Ppem: 2049}, api.ErrPpem, api.ErrPpem},
		{api.Key{Glyph: 1, Ppem: -1}, api.ErrPpem, api.ErrPpem},
		{api.Key{Glyph: 1, Ppem: math.MaxInt}, api.ErrPpem, api.ErrPpem},
		{api.Key{Glyph: 1, Ppem: 9, PhaseX: 64}, api.ErrPpem, api.ErrPpem},
		{api.Key{Glyph: 1, Ppem: 9, PhaseX: -1}, api.ErrPpem, api.ErrPpem},
		{api.Key{Glyph: 1, Ppem: 9, PhaseY: 64}, api.ErrPpem, api.ErrPpem},
		{api.Key{Glyph: 1, Ppem: 9, PhaseY: -1}, api.ErrPpem, api.ErrPpem},
		{api.Key{Glyph: 4, Ppem: 0}, api.ErrPpem, api.ErrPpem},
		{api.Key{Glyph: 5, Ppem: 0}, api.ErrDepth, api.ErrDepth},
		{api.Key{Glyph: 5, Ppem: 9}, api.ErrDepth, api.ErrDepth},
		{api.Key{Glyph: 4, Ppem: 30}, api.OK, api.OK},
		{api.Key{Glyph: 4, Ppem: 64}, api.OK, api.OK},
		{api.Key{Glyph: 4, Ppem: 64, PhaseX: 1}, api.OK, api.ErrMask},
		{api.Key{Glyph: 4, Ppem: 64, PhaseY: 63}, api.OK, api.ErrMask},
		{api.Key{Glyph: 4, Ppem: 65}, api.OK, api.ErrMask},
		{api.Key{Glyph: 4, Ppem: 1024}, api.OK, api.ErrMask},
		{api.Key{Glyph: 4, Ppem: 1024, PhaseX: 1}, api.ErrOver, api.ErrOver},
		{api.Key{Glyph: 4, Ppem: 1025}, api.ErrOver, api.ErrOver},
	} {
		if flat, e := f.Flat(x.k, nil); e != x.flat || e != api.OK && len(flat) > 0 {
			t.Error(x, e)
		}
		if m, e := f.Mask(x.k, nil); e != x.mask || e != api.OK && !sameMask(m, api.Mask{}) {
			t.Error(x, e)
		}
	}
}

func TestNil(t *testing.T) {
	var f *font.Font
	if f.Glyphs() != 0 || f.Units() != 0 || f.Cff() || f.Lines() != (api.Lines{}) || f.Glyph(65) != 0 || f.Kern(1, 2) != 0 {
		t.Error("nil is something")
	}
	for _, glyph := range []int{-1, 0, 1} {
		if m, e := f.Metric(glyph); m != (api.Metric{}) || e != api.ErrClosed {
			t.Error(m, e)
		}
		if o, e := f.Outline(glyph, list(1)); len(o) > 0 || e != api.ErrClosed {
			t.Error(o, e)
		}
		for _, ppem := range []int{0, 10} {
			if flat, e := f.Flat(api.Key{Glyph: glyph, Ppem: ppem}, nil); len(flat) > 0 || e != api.ErrClosed {
				t.Error(flat, e)
			}
			if m, e := f.Mask(api.Key{Glyph: glyph, Ppem: ppem}, nil); !sameMask(m, api.Mask{}) || e != api.ErrClosed {
				t.Error(m, e)
			}
		}
	}
}

// TestOwnMemory: what was handed in, or answered, may be changed afterwards.
func TestOwnMemory(t *testing.T) {
	for _, p := range []api.FontParts{trueParts(), cffParts()} {
		b := built(t, p)
		whole := append(slices.Clone(b), 1, 2, 3, 4)
		f, g := loaded(t, whole[:len(b)]), loaded(t, b)
		if !bytes.Equal(whole[len(b):], list[byte](1, 2, 3, 4)) {
			t.Error("wrote behind the end")
		}
		for i := range whole {
			whole[i] = 0xAA
		}
		draws := list(3, 4)
		for glyph := range f.Glyphs() {
			k := api.Key{Glyph: glyph, Ppem: 20, PhaseX: 7}
			answersAlike(t, f, g, k, draws)
			o, _ := f.Outline(glyph, draws)
			for _, c := range o {
				clear(c[:cap(c)])
			}
			flat, _ := f.Flat(k, draws)
			for _, c := range flat {
				clear(c[:cap(c)])
			}
			m, _ := f.Mask(k, draws)
			clear(m.Rows[:cap(m.Rows)])
			answersAlike(t, f, g, k, draws)
		}
		if !slices.Equal(draws, list(3, 4)) {
			t.Error(draws)
		}
	}
}
