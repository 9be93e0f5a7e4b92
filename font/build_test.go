package font_test

import (
	"bytes"
	"math"
	"math/rand"
	"reflect"
	"slices"
	"testing"

	"serif/api"
	"serif/cff"
	"serif/charmap"
	"serif/cmap"
	"serif/font"
	"serif/glyf"
	"serif/kern"
	"serif/metric"
	"serif/sfnt"
)

// TestSmall: a font, byte by byte.
func TestSmall(t *testing.T) {
	b := built(t, small())
	if !bytes.Equal(b, smallSheet().bytes()) {
		t.Error(sheetOf(b), smallSheet())
	}
	if e := sfnt.Check(b); e != api.OK {
		t.Error(e)
	}
	f := loaded(t, b)
	if o, e := f.Outline(1, nil); !sameOutline(o, contours(list(on(0, 0), on(100, 0), on(0, 100)))) || e != api.OK {
		t.Error(o, e)
	}
}

// TestTables: each table is what its maker makes.
func TestTables(t *testing.T) {
	for _, x := range []struct {
		p        api.FontParts
		encoding int
	}{
		{trueParts(), 1}, {cffParts(), 10},
	} {
		for _, format := range []int{0, 4, 6, 12} {
			p := x.p
			if p.Format = format; p.Format != 12 && len(p.Cff.Codes) > 0 {
				p.Codes = p.Codes[:2]
			}
			s := sheetOf(built(t, p))
			want := sheet{version: api.VersionOne, tables: map[string][]byte{
				"head": s.tables["head"],
				"maxp": trueMaxp(len(p.Advs)),
				"hhea": slices.Concat(numbers(1, 0, p.Lines.Ascent, p.Lines.Descent, p.Lines.Gap), make([]byte, 22), numbers(0, p.Own)),
				"hmtx": must(metric.Put(p.Advs, p.Own)),
			}}
			encoding := 1
			if format == 12 {
				encoding = 10
			}
			want.tables["cmap"] = must(cmap.Build(list(api.Subtable{Platform: 3, Encoding: encoding, Data: must(charmap.Make(format, p.Codes))})))
			if len(p.Kerns) > 0 {
				want.tables["kern"] = must(kern.Put(p.Kerns))
			}
			if len(p.Cff.Codes) > 0 {
				want.version = api.VersionCff
				want.tables["maxp"] = numbers(0, 0x5000, 4)
				want.tables["CFF "] = must(cff.Build(p.Cff))
			} else {
				data, offsets, e := glyf.Build(p.Glyphs)
				want.tables["glyf"] = must(data, e)
				want.tables["loca"] = must(metric.PutPlaces(offsets, false))
			}
			if !reflect.DeepEqual(s, want) {
				t.Error(format, s, want)
			}
			head := slices.Concat(numbers(1, 0, 0, 0, 0, 0), number(0x5F0F3CF5, 4), numbers(0, p.Units), make([]byte, 34))
			copy(head[8:], s.tables["head"][8:12])
			if !bytes.Equal(s.tables["head"], head) {
				t.Error(s.tables["head"], head)
			}
		}
	}
}

// TestLong: places have the longer form just where the other one does not fit.
func TestLong(t *testing.T) {
	for _, x := range []struct {
		first, second int
		long          bool
	}{
		{0, 4, false}, {3, 5, false}, {65536, 65532, false}, {131068, 0, false}, {131065, 0, false}, {0, 131068, false},
		{131069, 0, true}, {131070, 0, true}, {131071, 0, true}, {131072, 0, true}, {0, 131069, true}, {1, 131065, true}, {1 << 19, 1 << 18, true}, {1 << 19, 1<<19 - 4096, true},
	} {
		p := small()
		p.Glyphs = list(make([]byte, x.first), make([]byte, x.second))
		b := built(t, p)
		s := sheetOf(b)
		_, offsets, _ := glyf.Build(p.Glyphs)
		if s.tables["head"][51] == 1 != x.long || !bytes.Equal(s.tables["loca"], must(metric.PutPlaces(offsets, x.long))) {
			t.Error(x, s.tables["head"][51])
		}
		loaded(t, b)
	}
	// A CFF has no places.
	if s := sheetOf(built(t, cffParts())); s.tables["head"][51] != 0 {
		t.Error("long")
	}
}

// wrongPart is something that is wrong with parts: which ones, and by which name they are refused.
type wrongPart struct {
	name string
	of   string
	e    api.Errno
	do   func(p *api.FontParts)
}

// wrongParts is what can be wrong with both kinds of fonts, as it is told in order. Parts that hang on one another are of the same name.
func wrongParts() []wrongPart {
	var l []wrongPart
	add := func(name, of string, e api.Errno, do func(p *api.FontParts)) {
		l = append(l, wrongPart{name, of, e, do})
	}
	for _, units := range []int{15, 0, -1, 16385, 1 << 16, 1<<16 + 1000, math.MaxInt, math.MinInt} {
		add("units", "units", api.ErrArg, func(p *api.FontParts) { p.Units = units })
	}
	for _, x := range []int{-32769, 32768, 65536, math.MaxInt, math.MinInt} {
		add("ascent", "lines", api.ErrArg, func(p *api.FontParts) { p.Lines.Ascent = x })
		add("descent", "lines", api.ErrArg, func(p *api.FontParts) { p.Lines.Descent = x })
		add("gap", "lines", api.ErrArg, func(p *api.FontParts) { p.Lines.Gap = x })
	}
	for _, own := range []int{0, -1, 65536, math.MaxInt, math.MinInt, 3} {
		add("own", "metrics", api.ErrArg, func(p *api.FontParts) {
			p.Own = own
			p.Advs[len(p.Advs)-1].Advance = 65535
		})
	}
	add("own above glyphs", "metrics", api.ErrArg, func(p *api.FontParts) { p.Own = len(p.Advs) + 1 })
	add("no metrics", "metrics", api.ErrArg, func(p *api.FontParts) { p.Advs = nil })
	add("a metric too few", "metrics", api.ErrArg, func(p *api.FontParts) { p.Advs, p.Own = p.Advs[:3], 3 })
	add("a metric too many", "metrics", api.ErrArg, func(p *api.FontParts) { p.Advs = append(p.Advs, p.Advs[len(p.Advs)-1]) })
	add("an advance below 0", "metrics", api.ErrArg, func(p *api.FontParts) { p.Advs[0].Advance = -1 })
	add("an advance too large", "metrics", api.ErrArg, func(p *api.FontParts) { p.Advs[0].Advance = 65536 })
	add("a bearing too large", "metrics", api.ErrArg, func(p *api.FontParts) { p.Advs[1].Bearing = 32768 })
	for _, format := range []int{-1, 1, 2, 3, 5, 7, 8, 10, 13, 14, 65536 + 4, math.MaxInt} {
		add("format", "codes", api.ErrFormat, func(p *api.FontParts) { p.Format = format })
		add("format and codes", "codes", api.ErrFormat, func(p *api.FontParts) { p.Format, p.Codes = format, []api.Pair{{Code: -1}} })
	}
	add("codes that fall", "codes", api.ErrArg, func(p *api.FontParts) { slices.Reverse(p.Codes) })
	add("a code below 0", "codes", api.ErrArg, func(p *api.FontParts) { p.Codes[0].Code = -1 })
	add("a code too large", "codes", api.ErrArg, func(p *api.FontParts) { p.Codes[len(p.Codes)-1].Code = 0x110000 })
	add("glyph 0", "codes", api.ErrArg, func(p *api.FontParts) { p.Codes[0].Glyph = 0 })
	add("many codes", "codes", api.ErrLong, func(p *api.FontParts) {
		p.Codes = nil
		for code := range 8193 {
			p.Codes = append(p.Codes, api.Pair{Code: code, Glyph: 1})
		}
	})
	add("pairs that fall", "kerns", api.ErrArg, func(p *api.FontParts) {
		p.Kerns = []api.Kern{{Left: 2, Right: 1}, {Left: 1, Right: 2}}
	})
	add("a pair twice", "kerns", api.ErrArg, func(p *api.FontParts) { p.Kerns = make([]api.Kern, 2) })
	add("a value too large", "kerns", api.ErrArg, func(p *api.FontParts) { p.Kerns = []api.Kern{{Value: 32768}} })
	return l
}

func wrongTrueParts() []wrongPart {
	many := wrongPart{"many glyphs", "glyphs", api.ErrArg, func(p *api.FontParts) { p.Glyphs = make([][]byte, 65536) }}
	all := slices.Insert(wrongParts(), slices.IndexFunc(wrongParts(), func(w wrongPart) bool { return w.name == "ascent" }), many)
	return append(all,
		wrongPart{"glyphs too long", "glyphs", api.ErrLong, func(p *api.FontParts) { p.Glyphs[4] = make([]byte, api.MaxFile+1) }},
		wrongPart{"glyphs too long together", "glyphs", api.ErrLong, func(p *api.FontParts) { p.Glyphs[0], p.Glyphs[1] = make([]byte, 1<<19), make([]byte, 1<<19) }},
		wrongPart{"tables too long together", "glyphs", api.ErrLong, func(p *api.FontParts) {
			p.Glyphs[4] = make([]byte, api.MaxFile-300)
		}},
	)
}

func wrongCffParts() []wrongPart {
	return append(wrongParts(),
		wrongPart{"a name too few", "cff", api.ErrArg, func(p *api.FontParts) { p.Cff.Names = p.Cff.Names[1:] }},
		wrongPart{"name 0", "cff", api.ErrArg, func(p *api.FontParts) { p.Cff.Names = []int{1, 2, 3, 4} }},
		wrongPart{"no families", "cff", api.ErrArg, func(p *api.FontParts) { p.Cff.Families = nil }},
		wrongPart{"selection", "cff", api.ErrArg, func(p *api.FontParts) { p.Cff.Select = []int{0, 0, 0, 1} }},
		wrongPart{"charstrings too long", "cff", api.ErrLong, func(p *api.FontParts) { p.Cff.Codes[0] = make([]byte, api.MaxFile) }},
		wrongPart{"tables too long together", "cff", api.ErrLong, func(p *api.FontParts) { p.Cff.Codes[0] = make([]byte, api.MaxFile-300) }},
	)
}

// notBuilt asks that parts are refused by this name, and nothing is answered beside it.
func notBuilt(t *testing.T, p api.FontParts, want api.Errno, what ...any) {
	t.Helper()
	if b, e := font.Build(p); len(b) > 0 || e != want {
		t.Error(what, len(b), e, "should be", want)
	}
}

// TestWrongParts: each is told by its name; of two that are told of different parts the one that comes first.
func TestWrongParts(t *testing.T) {
	for _, kind := range []struct {
		base  func() api.FontParts
		wrong []wrongPart
	}{
		{trueParts, wrongTrueParts()}, {cffParts, wrongCffParts()},
	} {
		for i, first := range kind.wrong {
			p := kind.base()
			first.do(&p)
			notBuilt(t, p, first.e, first.name)
			for _, second := range kind.wrong[i+1:] {
				if first.of == second.of {
					continue
				}
				p := kind.base()
				first.do(&p)
				second.do(&p)
				notBuilt(t, p, first.e, first.name, "and", second.name)
			}
		}
	}
}

// TestNeitherOrBoth kinds of outlines: ahead of all else.
func TestNeitherOrBoth(t *testing.T) {
	notBuilt(t, api.FontParts{}, api.ErrArg, "nothing")
	p := trueParts()
	p.Glyphs = nil
	notBuilt(t, p, api.ErrArg, "neither")
	p.Format = 5
	notBuilt(t, p, api.ErrArg, "neither, and a format that there is not")
	p = trueParts()
	p.Cff = cffParts().Cff
	notBuilt(t, p, api.ErrArg, "both")
	p.Advs, p.Own = slices.Concat(p.Advs, cffParts().Advs), 10
	notBuilt(t, p, api.ErrArg, "both, with metrics of all")
	p.Advs, p.Own = cffParts().Advs, 4
	notBuilt(t, p, api.ErrArg, "both, with metrics of the charstrings")
	p.Format = 5
	notBuilt(t, p, api.ErrArg, "both, and a format that there is not")
	// Other parts of a CFF are not looked at, where it has no charstrings.
	p = trueParts()
	p.Cff = api.CffParts{Families: make([]api.Family, 500), Names: []int{-1}, Select: []int{9}}
	if b, e := font.Build(p); e != api.OK || !bytes.Equal(b, built(t, trueParts())) {
		t.Error(e)
	}
	// What Lines says of metrics is not looked at: Own does.
	p.Lines.Metrics = -5
	if b, e := font.Build(p); e != api.OK || !bytes.Equal(b, built(t, trueParts())) {
		t.Error(e)
	}
}

// TestBounds: as many glyphs, and as long a font, as can be.
func TestBounds(t *testing.T) {
	p := small()
	p.Glyphs, p.Advs, p.Own = make([][]byte, 65535), make([]api.Metric, 65535), 1
	f := loaded(t, built(t, p))
	if f.Glyphs() != 65535 {
		t.Error(f.Glyphs())
	}
	p = small()
	p.Glyphs[0] = make([]byte, api.MaxFile-2*len(built(t, p)))
	for len(built(t, p)) < api.MaxFile {
		p.Glyphs[0] = append(p.Glyphs[0], 0, 0, 0, 0)
	}
	b := built(t, p)
	if len(b) != api.MaxFile || loaded(t, b).Glyphs() != 2 {
		t.Error(len(b))
	}
	p.Glyphs[0] = append(p.Glyphs[0], 0)
	notBuilt(t, p, api.ErrLong, "a byte more")
	for _, units := range []int{16, 16384} {
		p := small()
		p.Units = units
		if f := loaded(t, built(t, p)); f.Units() != units {
			t.Error(units)
		}
	}
}

// TestEmptyCodes: a font may be one that names no code point.
func TestEmptyCodes(t *testing.T) {
	for _, format := range []int{0, 4, 6, 12} {
		p := trueParts()
		p.Codes, p.Format = nil, format
		f := loaded(t, built(t, p))
		for code := range 300 {
			if f.Glyph(code) != 0 {
				t.Error(format, code, f.Glyph(code))
			}
		}
	}
}

// drawnParts is parts of a font, of either kind, that may be.
func drawnParts(draw *rand.Rand) api.FontParts {
	n := 1 + draw.Intn(12)
	p := api.FontParts{
		Units:  16 + draw.Intn(16369),
		Lines:  api.Lines{Ascent: draw.Intn(65536) - 32768, Descent: draw.Intn(65536) - 32768, Gap: draw.Intn(65536) - 32768},
		Own:    1 + draw.Intn(n),
		Format: []int{0, 4, 6, 12}[draw.Intn(4)],
	}
	for i := range n {
		m := api.Metric{Advance: draw.Intn(65536), Bearing: draw.Intn(65536) - 32768}
		if i >= p.Own {
			m.Advance = p.Advs[p.Own-1].Advance
		}
		p.Advs = append(p.Advs, m)
	}
	step := []int{3, 30, 30, 3000}[draw.Intn(4)]
	for code := draw.Intn(20); len(p.Codes) < 50 && (p.Format == 12 || code < 250); code += 1 + draw.Intn(step) {
		p.Codes = append(p.Codes, api.Pair{Code: code, Glyph: 1 + draw.Intn(n+2)})
	}
	for left := range draw.Intn(n + 1) {
		p.Kerns = append(p.Kerns, api.Kern{Left: left, Right: draw.Intn(n), Value: draw.Intn(65536) - 32768})
	}
	if draw.Intn(2) == 0 {
		for i := range n {
			p.Cff.Codes = append(p.Cff.Codes, [][]byte{dash, square, chance, {14}}[draw.Intn(4)])
			p.Cff.Names = append(p.Cff.Names, i)
		}
		p.Cff.Families = make([]api.Family, 1)
		return p
	}
	for range n {
		x, y := draw.Intn(1000)-500, draw.Intn(1000)-500
		p.Glyphs = append(p.Glyphs, [][]byte{nil, shape(block(x, y, x+draw.Intn(1000), y+draw.Intn(1000))), shape(leaf(), block(x, y, 2*x, 2*y))}[draw.Intn(3)])
	}
	return p
}

// TestRoundTrip: what was built is loaded, and is what its parts say.
func TestRoundTrip(t *testing.T) {
	draw := rand.New(rand.NewSource(30))
	for range 300 {
		p := drawnParts(draw)
		b := built(t, p)
		if e := sfnt.Check(b); e != api.OK {
			t.Fatal(e)
		}
		f := loaded(t, b)
		lines := p.Lines
		lines.Metrics = p.Own
		if f.Units() != p.Units || f.Glyphs() != len(p.Advs) || f.Lines() != lines || f.Cff() != (len(p.Cff.Codes) > 0) {
			t.Fatal(p)
		}
		for glyph, want := range p.Advs {
			if m, e := f.Metric(glyph); m != want || e != api.OK {
				t.Fatal(glyph, m, e, want)
			}
		}
		codes := map[int]int{}
		for _, x := range p.Codes {
			if x.Glyph < len(p.Advs) {
				codes[x.Code] = x.Glyph
			}
		}
		for code := range 300 {
			if f.Glyph(code) != codes[code] {
				t.Fatal(code, f.Glyph(code), codes[code])
			}
		}
		pairs := map[[2]int]int{}
		for _, k := range p.Kerns {
			pairs[[2]int{k.Left, k.Right}] = k.Value
		}
		for left := range p.Advs {
			for right := range p.Advs {
				if f.Kern(left, right) != pairs[[2]int{left, right}] {
					t.Fatal(left, right)
				}
			}
		}
		outlinesAreParts(t, f, p)
	}
}

// outlinesAreParts holds a font's outlines against those that its parts say, asked one layer down.
func outlinesAreParts(t *testing.T, f *font.Font, p api.FontParts) {
	t.Helper()
	draws := list(300, 1)
	var of func(glyph int) ([][]api.Point, api.Errno)
	if f.Cff() {
		c := must(cff.Load(must(cff.Build(p.Cff))))
		of = func(glyph int) ([][]api.Point, api.Errno) {
			d, e := c.Draw(glyph, draws)
			return d.Outline, e
		}
	} else {
		data, offsets, _ := glyf.Build(p.Glyphs)
		places := must(metric.LoadPlaces(must(metric.PutPlaces(offsets, true)), len(p.Glyphs), true, len(data)))
		of = must(glyf.New(data, places)).Outline
	}
	for glyph := range f.Glyphs() {
		want, d := of(glyph)
		if o, e := f.Outline(glyph, draws); !sameOutline(o, want) || e != d {
			t.Fatal(glyph, o, e, want, d)
		}
	}
}

// TestPartsStay: parts that are handed in are not changed, and not kept.
func TestPartsStay(t *testing.T) {
	for _, of := range []func() api.FontParts{trueParts, cffParts} {
		p := of()
		b := built(t, p)
		if !reflect.DeepEqual(p, of()) {
			t.Error("changed", p)
		}
		want := slices.Clone(b)
		for _, g := range p.Glyphs {
			clear(g)
		}
		for i := range p.Advs {
			p.Advs[i] = api.Metric{}
		}
		if !bytes.Equal(b, want) {
			t.Error("kept")
		}
		clear(b[:cap(b)])
		if !bytes.Equal(built(t, of()), want) {
			t.Error("another one")
		}
	}
}
