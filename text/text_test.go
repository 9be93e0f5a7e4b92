package text_test

import (
	"bytes"
	"math"
	"math/rand"
	"slices"
	"strings"
	"testing"

	"serif/api"
	"serif/canvas"
	"serif/font"
	"serif/text"
)

// codes is the code points of a text.
func codes(s string) []int {
	var l []int
	for _, c := range s {
		l = append(l, int(c))
	}
	return l
}

func TestNew(t *testing.T) {
	f := fontOf(t, trueParts())
	for _, budget := range []int{0, 1, 64, 1 << 24} {
		w := writerOf(t, f, nil, budget)
		if found, lacked := w.Hits(); found != 0 || lacked != 0 || w.Held() != 0 {
			t.Error(budget, found, lacked, w.Held())
		}
	}
	for _, budget := range []int{-1, 1<<24 + 1, math.MaxInt, math.MinInt} {
		if w, e := text.New(f, nil, budget); w != nil || e != api.ErrArg {
			t.Error(budget, w, e)
		}
		if w, e := text.New(nil, nil, budget); w != nil || e != api.ErrArg {
			t.Error(budget, w, e)
		}
	}
	if w, e := text.New(nil, list(1), 100); w != nil || e != api.ErrArg {
		t.Error("nil", w, e)
	}
}

func TestNil(t *testing.T) {
	var w *text.Writer
	found, lacked := w.Hits()
	if w.Glyph('B') != 0 || w.Held() != 0 || found != 0 || lacked != 0 {
		t.Error("nil is something")
	}
	if m, e := w.Render(api.Key{Glyph: 1, Ppem: 10}); !sameMask(m, api.Mask{}) || e != api.ErrClosed {
		t.Error(m, e)
	}
	v := canvasOf(t, 4, 4)
	kept := v.Bytes()
	for _, r := range []api.Run{{}, {Codes: codes("B"), Ppem: 10}, {Codes: make([]int, 1025), Ppem: 10}, {Ppem: 10, Color: 256}} {
		for _, v := range []*canvas.Canvas{v, nil} {
			if d, e := w.Draw(v, r); d != (api.Drew{}) || e != api.ErrClosed {
				t.Error(r, d, e)
			}
		}
		if x, e := w.Measure(r); x != 0 || e != api.ErrClosed {
			t.Error(r, x, e)
		}
	}
	for _, budget := range []int{0, -1} {
		if e := w.Resize(budget); e != api.ErrClosed {
			t.Error(e)
		}
	}
	if !bytes.Equal(v.Bytes(), kept) {
		t.Error("drew")
	}
}

func TestGlyph(t *testing.T) {
	w := writerOf(t, fontOf(t, trueParts()), nil, 0)
	for _, x := range [][2]int{{'A', 0}, {'B', 1}, {'C', 2}, {'G', 6}, {'H', 0}, {-1, 0}, {0x110000, 0}, {1<<32 + 'B', 0}, {math.MaxInt, 0}, {math.MinInt, 0}} {
		if w.Glyph(x[0]) != x[1] {
			t.Error(x, w.Glyph(x[0]))
		}
	}
}

// TestRender: what the cache has is found there; what it has not is made, and told likewise.
func TestRender(t *testing.T) {
	b := bothOf(t, trueParts(), nil, 1000, 1, 1)
	k := api.Key{Glyph: glyphSquare, Ppem: 10}
	for i := range 3 {
		m, e := b.render(t, k)
		if e != api.OK || m.Box != (api.Box{Y0: -5, X1: 5}) || !bytes.Equal(m.Rows, bytes.Repeat([]byte{255}, 25)) {
			t.Error(m, e)
		}
		clear(m.Rows[:cap(m.Rows)])
		if found, lacked := b.w.Hits(); found != i || lacked != 1 || b.w.Held() != 89 {
			t.Error(found, lacked, b.w.Held())
		}
	}
	// Another size, and another phase, are other keys.
	for _, k := range []api.Key{{Glyph: glyphSquare, Ppem: 11}, {Glyph: glyphSquare, Ppem: 10, PhaseX: 1}, {Glyph: glyphSquare, Ppem: 10, PhaseY: 1}, {Glyph: glyphLeaf, Ppem: 10}, {Glyph: glyphSpace, Ppem: 10}} {
		b.render(t, k)
	}
	if found, lacked := b.w.Hits(); found != 2 || lacked != 6 {
		t.Error(found, lacked)
	}
	// One that is refused is not kept, but counted.
	held := b.w.Held()
	for i, x := range []struct {
		k api.Key
		e api.Errno
	}{
		{api.Key{Glyph: glyphWrong, Ppem: 10}, api.ErrDepth},
		{api.Key{Glyph: glyphWrong}, api.ErrDepth},
		{api.Key{Glyph: 7, Ppem: 10}, api.ErrGlyph},
		{api.Key{Glyph: -1}, api.ErrGlyph},
		{api.Key{Glyph: glyphSquare}, api.ErrPpem},
		{api.Key{Glyph: glyphSquare, Ppem: 2049}, api.ErrPpem},
		{api.Key{Glyph: glyphSquare, Ppem: 9, PhaseX: 64}, api.ErrPpem},
		{api.Key{Glyph: glyphSquare, Ppem: 9, PhaseY: -1}, api.ErrPpem},
		{api.Key{Glyph: glyphLarge, Ppem: 600}, api.ErrMask},
	} {
		for range 2 {
			if m, e := b.render(t, x.k); !sameMask(m, api.Mask{}) || e != x.e {
				t.Error(x, m, e)
			}
		}
		if found, lacked := b.w.Hits(); found != 2 || lacked != 8+2*i || b.w.Held() != held {
			t.Error(found, lacked, b.w.Held())
		}
	}
}

// TestBudget: more than the budget is never held; a mask that is larger is answered all the same.
func TestBudget(t *testing.T) {
	k := api.Key{Glyph: glyphSquare, Ppem: 10}
	for _, x := range []struct{ budget, held int }{{0, 0}, {63, 0}, {64, 0}, {88, 0}, {89, 89}, {90, 89}, {1 << 24, 89}} {
		b := bothOf(t, trueParts(), nil, x.budget, 1, 1)
		for range 2 {
			if m, e := b.render(t, k); len(m.Rows) != 25 || e != api.OK || b.w.Held() != x.held {
				t.Error(x, m, e, b.w.Held())
			}
		}
	}
	b := bothOf(t, trueParts(), nil, 200, 1, 1)
	for ppem := 1; ppem < 30; ppem++ {
		b.render(t, api.Key{Glyph: glyphSquare, Ppem: ppem})
		b.render(t, api.Key{Glyph: glyphLeaf, Ppem: ppem})
		b.render(t, k)
		if b.w.Held() > 200 {
			t.Error(b.w.Held())
		}
	}
	for _, budget := range []int{150, 89, 300, 88, 0, 1 << 24, 64, 63} {
		b.resize(t, budget)
		b.render(t, k)
		b.render(t, api.Key{Glyph: glyphSpace, Ppem: 9})
		b.render(t, k)
	}
	for _, budget := range []int{-1, 1<<24 + 1, math.MaxInt, math.MinInt} {
		if e := b.w.Resize(budget); e != api.ErrArg {
			t.Error(budget, e)
		}
		b.alike(t, "refused", budget)
	}
}

// TestMeasure: kerns and advances are rounded one by one.
func TestMeasure(t *testing.T) {
	b := bothOf(t, trueParts(), nil, 100, 1, 1)
	for _, x := range []struct {
		s       string
		x, ppem int
		want    int
	}{
		{"", 5, 10, 5},
		{"", -1 << 20, 1, -1 << 20},
		{"", 1 << 20, 2048, 1 << 20},
		{"B", 0, 10, 326},            // 326.4
		{"BB", 0, 10, 660},           // 326.4, 8.32, 326.4
		{"BC", 7, 10, 386},           // 326.4, -160, 213.12
		{"A", 0, 10, 288},            // no glyph
		{"AB", 0, 10, 565},           // 288, -49.28, 326.4
		{"AAA", -1000, 10, -136},     // no pair of these
		{"D", 0, 1, 16},              // 16
		{"DD", 0, 1, 16 - 2097 + 16}, // -2097.152
		{"GD", 0, 1, 2097 + 16},
		{"G", 77, 2048, 77},
	} {
		if n, e := b.measure(t, api.Run{Codes: codes(x.s), X: x.x, Ppem: x.ppem}); n != x.want || e != api.OK {
			t.Error(x, n, e)
		}
	}
}

// TestRuns that may not be, by the names by which they are refused: the first one first, and nothing is drawn, or asked of the cache.
func TestRuns(t *testing.T) {
	long := codes(strings.Repeat("G", 1025))
	whole := long[:1024]
	for _, x := range []struct {
		r api.Run
		e api.Errno
	}{
		{api.Run{Codes: whole, Ppem: 1}, api.OK},
		{api.Run{Codes: long, Ppem: 1}, api.ErrLong},
		{api.Run{Codes: long, Ppem: 0, X: 1<<20 + 1, Color: -1}, api.ErrLong},
		{api.Run{Ppem: 1}, api.OK},
		{api.Run{Ppem: 2048}, api.OK},
		{api.Run{Ppem: 0}, api.ErrPpem},
		{api.Run{Ppem: -1}, api.ErrPpem},
		{api.Run{Ppem: 2049}, api.ErrPpem},
		{api.Run{Ppem: math.MaxInt}, api.ErrPpem},
		{api.Run{Ppem: math.MinInt, X: math.MaxInt, Y: math.MinInt, Color: 256}, api.ErrPpem},
		{api.Run{Codes: codes("E"), Ppem: 0}, api.ErrPpem},
		{api.Run{Ppem: 1, X: 1 << 20, Y: -1 << 20, Color: 255}, api.OK},
		{api.Run{Ppem: 1, X: -1 << 20, Y: 1 << 20, Color: 0}, api.OK},
		{api.Run{Ppem: 1, X: 1<<20 + 1}, api.ErrArg},
		{api.Run{Ppem: 1, X: -1<<20 - 1}, api.ErrArg},
		{api.Run{Ppem: 1, Y: 1<<20 + 1}, api.ErrArg},
		{api.Run{Ppem: 1, Y: -1<<20 - 1}, api.ErrArg},
		{api.Run{Ppem: 1, X: math.MaxInt}, api.ErrArg},
		{api.Run{Ppem: 1, Y: math.MinInt}, api.ErrArg},
		{api.Run{Ppem: 1, Color: -1}, api.ErrArg},
		{api.Run{Ppem: 1, Color: 256}, api.ErrArg},
		{api.Run{Ppem: 1, Color: math.MinInt}, api.ErrArg},
		{api.Run{Codes: codes("B"), Ppem: 1, Color: 256, X: 1 << 20}, api.ErrArg},
		{api.Run{Codes: codes("B"), Ppem: 1, X: 1<<20 - 32}, api.ErrOver},
		{api.Run{Codes: codes("B"), Ppem: 1, X: 1<<20 - 33}, api.OK},
		{api.Run{Codes: codes("E"), Ppem: 1, X: 1 << 20}, api.ErrOver},
		{api.Run{Codes: codes("EB"), Ppem: 1, X: 1<<20 - 7}, api.ErrOver},
		{api.Run{Codes: codes("F"), Ppem: 2048, X: 1 << 19}, api.ErrOver},
		// There and back again is too far, too: the pen is led away by a kern, and back by an advance, or the other way round.
		{api.Run{Codes: codes("DD"), Ppem: 1, X: -1<<20 + 2081}, api.OK},
		{api.Run{Codes: codes("DD"), Ppem: 1, X: -1<<20 + 2080}, api.ErrOver},
		{api.Run{Codes: codes("DD"), Ppem: 1, X: 1<<20 - 16}, api.OK},
		{api.Run{Codes: codes("DD"), Ppem: 1, X: 1<<20 - 15}, api.ErrOver},
		{api.Run{Codes: codes("GD"), Ppem: 1, X: 1<<20 - 2097 - 16}, api.OK},
		{api.Run{Codes: codes("GD"), Ppem: 1, X: 1<<20 - 2097 - 15}, api.ErrOver},
		{api.Run{Codes: codes("GDD"), Ppem: 1, X: 1<<20 - 2097 - 15}, api.ErrOver},
		// A glyph that is refused is so behind all of these, and is not asked for where the pen goes too far behind it.
		{api.Run{Codes: codes("EF"), Ppem: 2048, X: 1 << 19}, api.ErrOver},
		{api.Run{Codes: codes("E"), Ppem: 1}, api.ErrDepth},
		{api.Run{Codes: codes("F"), Ppem: 600}, api.ErrMask},
	} {
		b := bothOf(t, trueParts(), nil, 1000, 6, 5)
		d, e := b.draw(t, x.r)
		if e != x.e || e != api.OK && d != (api.Drew{}) {
			t.Error(len(x.r.Codes), x, d, e)
		}
		_, lacked := b.w.Hits()
		if e == api.ErrDepth || e == api.ErrMask {
			if n, e := b.measure(t, x.r); e != api.OK {
				t.Error("Measure asks glyphs", n, e)
			}
			if lacked != 1 {
				t.Error(lacked)
			}
			continue
		}
		if e != api.OK && lacked != 0 {
			t.Error(x, "asked for", lacked)
		}
		n, e := b.measure(t, x.r)
		if e != x.e || n != d.X {
			t.Error(x, n, e, d)
		}
	}
	b := bothOf(t, trueParts(), nil, 1000, 6, 5)
	for _, r := range []api.Run{{}, {Codes: long}, {Codes: codes("B"), Ppem: 10}, {Ppem: 1, Color: 256}} {
		if d, e := b.w.Draw(nil, r); d != (api.Drew{}) || e != api.ErrClosed {
			t.Error(r, d, e)
		}
		b.alike(t, "no canvas", r)
	}
}

// TestRefusedGlyph: nothing is drawn; what was given to the cache stays there.
func TestRefusedGlyph(t *testing.T) {
	b := bothOf(t, trueParts(), nil, 1<<20, 40, 20)
	kept := b.v.Bytes()
	r := api.Run{Codes: codes("BE"), X: 100, Y: 900, Ppem: 10, Color: 255}
	if d, e := b.draw(t, r); d != (api.Drew{}) || e != api.ErrDepth {
		t.Error(d, e)
	}
	if found, lacked := b.w.Hits(); found != 0 || lacked != 2 || b.w.Held() == 0 {
		t.Error(found, lacked, b.w.Held())
	}
	if d, e := b.draw(t, r); d != (api.Drew{}) || e != api.ErrDepth {
		t.Error(d, e)
	}
	if found, lacked := b.w.Hits(); found != 1 || lacked != 3 {
		t.Error(found, lacked)
	}
	if !bytes.Equal(b.v.Bytes(), kept) {
		t.Error("drew")
	}
	// The first one that is refused is told.
	for _, x := range []struct {
		s string
		e api.Errno
	}{{"BFE", api.ErrMask}, {"BEF", api.ErrDepth}, {"GGF", api.ErrMask}, {"E", api.ErrDepth}} {
		if _, e := b.draw(t, api.Run{Codes: codes(x.s), Ppem: 520, Color: 1}); e != x.e {
			t.Error(x, e)
		}
	}
	r.Codes = codes("B")
	if d, e := b.draw(t, r); d.Glyphs != 1 || e != api.OK || bytes.Equal(b.v.Bytes(), kept) {
		t.Error(d, e)
	}
}

// TestPlaces: the pen's whole pixels, and the rest, above and below 0.
func TestPlaces(t *testing.T) {
	for x := -200; x < 200; x += 7 {
		for y := -130; y < 700; y += 61 {
			b := bothOf(t, trueParts(), nil, 5000, 11, 9)
			if d, e := b.draw(t, api.Run{Codes: codes("BC"), X: x, Y: y, Ppem: 8, Color: 40}); e != api.OK || d.Glyphs != 2 {
				t.Fatal(x, y, d, e)
			}
			b.draw(t, api.Run{Codes: codes("CBG"), X: x, Y: y, Ppem: 5, Color: 220})
		}
	}
	// By hand: a square of 5 pixels, a third of one further right, a quarter further down.
	b := bothOf(t, trueParts(), nil, 0, 8, 8)
	b.v.Fill(api.Box{X1: 8, Y1: 8}, 0)
	clear(b.s.pixels)
	d, e := b.draw(t, api.Run{Codes: codes("B"), X: 64 + 21, Y: 7*64 - 48, Ppem: 10, Color: 255})
	if e != api.OK || d != (api.Drew{X: 64 + 21 + 326, Box: api.Box{X0: 1, Y0: 1, X1: 7, Y1: 7}, Glyphs: 1}) {
		t.Error(d, e)
	}
	for _, x := range [][3]int{{3, 3, 255}, {1, 3, 171}, {6, 3, 84}, {3, 1, 191}, {3, 6, 64}, {0, 3, 0}, {7, 3, 0}, {3, 0, 0}, {3, 7, 0}} {
		if c := b.v.At(x[0], x[1]); c != x[2] {
			t.Error(x, c)
		}
	}
}

// TestOutside: what is not on the canvas is cut off.
func TestOutside(t *testing.T) {
	b := bothOf(t, trueParts(), nil, 5000, 12, 6)
	for _, x := range []struct {
		x, y int
		box  api.Box
	}{
		{-2 * 64, 5 * 64, api.Box{X1: 3, Y1: 5}},
		{-5 * 64, 5 * 64, api.Box{}},
		{-20000, 5 * 64, api.Box{}},
		{10 * 64, 8 * 64, api.Box{X0: 10, Y0: 3, X1: 12, Y1: 6}},
		{12 * 64, 5 * 64, api.Box{}},
		{0, 0, api.Box{}},
		{0, 64, api.Box{X1: 5, Y1: 1}},
		{0, 11 * 64, api.Box{}},
		{1 << 19, 1 << 20, api.Box{}},
		{-1 << 20, -1 << 20, api.Box{}},
	} {
		d, e := b.draw(t, api.Run{Codes: codes("B"), X: x.x, Y: x.y, Ppem: 10, Color: 90})
		if e != api.OK || d != (api.Drew{X: x.x + 326, Box: x.box, Glyphs: 1}) {
			t.Error(x, d, e)
		}
	}
	// Boxes of glyphs that lie apart are joined; those outside, and those of spaces, add nothing.
	d, e := b.draw(t, api.Run{Codes: codes("BDDDDGB"), X: 0, Y: 5 * 64, Ppem: 10, Color: 90})
	if e != api.OK || d.Box.X0 != 0 || d.Glyphs != 7 {
		t.Error(d, e)
	}
	d, e = b.draw(t, api.Run{Codes: codes("D"), Ppem: 10, Color: 90})
	if e != api.OK || d != (api.Drew{X: 160, Glyphs: 1}) {
		t.Error(d, e)
	}
	d, e = b.draw(t, api.Run{Ppem: 10, X: -7, Color: 90})
	if e != api.OK || d != (api.Drew{X: -7}) {
		t.Error(d, e)
	}
}

// TestDraws: each glyph is drawn with the very draws that New was given, from the first one on.
func TestDraws(t *testing.T) {
	given := list(40000, 7)
	f := fontOf(t, cffParts())
	w := writerOf(t, f, given, 0)
	want := must(f.Mask(api.Key{Glyph: 1, Ppem: 50}, list(40000, 7)))
	if other := must(f.Mask(api.Key{Glyph: 1, Ppem: 50}, nil)); sameMask(want, other) {
		t.Fatal("draws change nothing")
	}
	given[0] = 1
	for range 3 {
		if m, e := w.Render(api.Key{Glyph: 1, Ppem: 50}); !sameMask(m, want) || e != api.OK {
			t.Error(m, e)
		}
	}
	b := bothOf(t, cffParts(), list(40000, 7), 3000, 60, 40)
	for _, s := range []string{"B", "BBB", "ABBA", "C", "BC", ""} {
		_, e := b.draw(t, api.Run{Codes: codes(s), X: 100, Y: 2000, Ppem: 30, Color: 3})
		if (e != api.OK) != strings.Contains(s, "C") || e != api.OK && e != api.ErrSubr {
			t.Error(s, e)
		}
	}
}

// TestManyLarge: masks of a run that are more than a cache can hold are drawn all the same, and asked for once each.
func TestManyLarge(t *testing.T) {
	parts := trueParts()
	parts.Kerns, parts.Units = nil, 1600
	// At 1925 pixels an em a unit is 77 dots: squares that are a unit apart have other phases, and edges on the canvas.
	parts.Advs[glyphStill].Advance = 1
	parts.Glyphs[glyphStill] = shape(block(0, 0, 1600, 1600))
	for _, budget := range []int{0, 1 << 24} {
		b := bothOf(t, parts, nil, budget, 14, 5)
		r := api.Run{Codes: codes("GGGGGGGG"), X: 100, Y: 212, Ppem: 1925, Color: 60}
		d, e := b.draw(t, r)
		if e != api.OK || d != (api.Drew{X: 100 + 8*77, Box: api.Box{X0: 1, X1: 14, Y1: 4}, Glyphs: 8}) {
			t.Error(d, e)
		}
		if found, lacked := b.w.Hits(); found != 0 || lacked != 8 || b.w.Held() > budget {
			t.Error(found, lacked, b.w.Held())
		}
		// The one that is refused comes last.
		r.Codes = codes("GGGGGGE")
		if d, e := b.draw(t, r); d != (api.Drew{}) || e != api.ErrDepth {
			t.Error(d, e)
		}
	}
}

// drawnRun is a run that often may be.
func drawnRun(draw *rand.Rand) api.Run {
	r := api.Run{X: draw.Intn(2600) - 600, Y: draw.Intn(1800) - 200, Ppem: 1 + draw.Intn(20), Color: draw.Intn(256)}
	letters := "ABCDGH"
	if draw.Intn(6) == 0 {
		letters = "ABCDEFGH"
	}
	for range draw.Intn(9) {
		r.Codes = append(r.Codes, int(letters[draw.Intn(len(letters))]))
	}
	switch draw.Intn(40) {
	case 0:
		r.Ppem = 0
	case 1:
		r.Color = 256
	case 2:
		r.X = 1<<20 - draw.Intn(900)
	case 3:
		r.Y = -1<<20 - 1
	}
	return r
}

// TestSteps: drawn steps of all kinds, held against the plain writer.
func TestSteps(t *testing.T) {
	draw := rand.New(rand.NewSource(28))
	for round := range 60 {
		parts, draws := trueParts(), []int(nil)
		if round%4 == 3 {
			parts, draws = cffParts(), list(draw.Intn(1<<16), 5)
		}
		budgets := []int{0, 64, 200, 500, 1500, 1 << 24}
		b := bothOf(t, parts, draws, budgets[draw.Intn(len(budgets))], 1+draw.Intn(30), 1+draw.Intn(20))
		for range 60 {
			switch draw.Intn(8) {
			case 0:
				b.resize(t, budgets[draw.Intn(len(budgets))])
			case 1:
				b.render(t, api.Key{Glyph: draw.Intn(9) - 1, Ppem: draw.Intn(20), PhaseX: 16 * draw.Intn(4), PhaseY: draw.Intn(65)})
			case 2:
				b.measure(t, drawnRun(draw))
			default:
				b.draw(t, drawnRun(draw))
			}
		}
	}
}

// TestWhateverBudget: but for what is held, and found, budgets change nothing; nor do budgets that change.
func TestWhateverBudget(t *testing.T) {
	f := fontOf(t, trueParts())
	for seed := range int64(10) {
		var first [][]byte
		for _, budget := range []int{0, 1, 64, 100, 400, 3000, 1 << 24, -1} {
			draw := rand.New(rand.NewSource(seed))
			start := max(budget, 0)
			w, v := writerOf(t, f, nil, start), canvasOf(t, 30, 20)
			var all [][]byte
			for i := range 40 {
				r := drawnRun(draw)
				d, e := w.Draw(v, r)
				x, eX := w.Measure(r)
				m, eM := w.Render(api.Key{Glyph: draw.Intn(8), Ppem: draw.Intn(12)})
				all = append(all, v.Bytes(), m.Rows)
				for _, n := range []int{d.X, d.Box.X0, d.Box.Y0, d.Box.X1, d.Box.Y1, d.Glyphs, int(e), x, int(eX), int(eM), m.Box.X0, m.Box.Y0, m.Box.X1, m.Box.Y1} {
					all = append(all, []byte{byte(n), byte(n >> 8), byte(n >> 16), byte(n >> 24)})
				}
				limit := budget
				if budget < 0 {
					limit = []int{0, 300, 80, 1 << 20}[i%4]
					w.Resize(limit)
				}
				if w.Held() > limit {
					t.Fatal(w.Held(), limit)
				}
			}
			if first == nil {
				first = all
			}
			if !slices.EqualFunc(first, all, bytes.Equal) {
				t.Fatal(seed, budget, "answers otherwise")
			}
		}
	}
}

// TestWritersApart: two writers of one font, and two canvases, know nothing of one another.
func TestWritersApart(t *testing.T) {
	f := fontOf(t, trueParts())
	one, two := writerOf(t, f, nil, 1000), writerOf(t, f, nil, 1000)
	v, u := canvasOf(t, 20, 20), canvasOf(t, 20, 20)
	kept := u.Bytes()
	r := api.Run{Codes: codes("BC"), Y: 600, Ppem: 10, Color: 9}
	if _, e := one.Draw(v, r); e != api.OK {
		t.Error(e)
	}
	if found, lacked := two.Hits(); found != 0 || lacked != 0 || two.Held() != 0 || !bytes.Equal(u.Bytes(), kept) {
		t.Error("not apart")
	}
	if _, e := two.Draw(u, r); e != api.OK || !bytes.Equal(u.Bytes(), v.Bytes()) {
		t.Error("not alike", e)
	}
}

// TestAnyFont: of fonts of which any bytes are changed runs are drawn, or refused.
func TestAnyFont(t *testing.T) {
	draw := rand.New(rand.NewSource(29))
	for _, parts := range []api.FontParts{trueParts(), cffParts()} {
		base := must(font.Build(parts))
		for range 1500 {
			b := slices.Clone(base)
			for range 1 + draw.Intn(3) {
				b[draw.Intn(len(b))] = byte(draw.Intn(256))
			}
			f, e := font.Load(b)
			if e != api.OK {
				continue
			}
			w, v := writerOf(t, f, list(1, 2), 300), canvasOf(t, 16, 12)
			for range 4 {
				r := drawnRun(draw)
				kept := v.Bytes()
				x, eX := w.Measure(r)
				d, e := w.Draw(v, r)
				switch {
				case e != api.OK && (d != api.Drew{} || !bytes.Equal(v.Bytes(), kept)):
					t.Fatal("refused, and drawn", r, d, e)
				case e == api.OK && (d.X != x || d.Glyphs != len(r.Codes) || eX != api.OK):
					t.Fatal(r, d, x, eX)
				case eX != api.OK && e != eX:
					t.Fatal(r, e, eX)
				}
				if w.Held() > 300 {
					t.Fatal(w.Held())
				}
			}
		}
	}
}
