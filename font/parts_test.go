package font_test

import (
	"maps"
	"math/bits"
	"slices"
	"testing"

	"serif/api"
	"serif/compose"
	"serif/font"
	"serif/simple"
)

const one = api.One16

// list is things one behind the other; contours is an outline.
func list[T any](l ...T) []T { return l }

func contours(l ...[]api.Point) [][]api.Point { return l }

// on and quad are points, in whole units.
func on(x, y int) api.Point { return api.Point{X: x * one, Y: y * one, Kind: api.PointOn} }

func quad(x, y int) api.Point { return api.Point{X: x * one, Y: y * one, Kind: api.PointQuad} }

// block is a rectangle from one corner to the other.
func block(x0, y0, x1, y1 int) []api.Point {
	return list(on(x0, y0), on(x1, y0), on(x1, y1), on(x0, y1))
}

// must is what is asked for, if nothing is refused.
func must[T any](x T, e api.Errno) T {
	if e != api.OK {
		panic(e)
	}
	return x
}

// shape is the bytes of a simple glyph; parts is those of a composite one.
func shape(o ...[]api.Point) []byte { return must(simple.Encode(o)) }

func parts(l ...api.Part) []byte { return must(compose.Encode(l)) }

// leaf is an outline of both kinds of points.
func leaf() []api.Point { return list(on(10, 0), quad(300, 100), on(250, 400), quad(0, 300)) }

// outlines is what the glyphs of trueParts look like: the last one is a part of itself.
func outlines() [][][]api.Point {
	return [][][]api.Point{
		contours(block(50, 0, 450, 700), block(100, 50, 400, 650)),
		contours(block(0, 0, 500, 500)),
		contours(leaf()),
		contours(block(0, 0, 500, 500), list(on(110, -20), quad(400, 80), on(350, 380), quad(100, 280))),
		nil,
		nil,
	}
}

// trueParts is a font of each kind of glyph.
func trueParts() api.FontParts {
	o := outlines()
	return api.FontParts{
		Units:  1000,
		Lines:  api.Lines{Ascent: 800, Descent: -200, Gap: 50},
		Advs:   []api.Metric{{Advance: 500, Bearing: 50}, {Advance: 510, Bearing: 0}, {Advance: 400, Bearing: 10}, {Advance: 620, Bearing: -5}, {Advance: 620, Bearing: 7}, {Advance: 620, Bearing: 9}},
		Own:    4,
		Codes:  []api.Pair{{Code: 32, Glyph: 4}, {Code: 65, Glyph: 1}, {Code: 66, Glyph: 2}, {Code: 67, Glyph: 3}, {Code: 90, Glyph: 5}},
		Format: 4,
		Kerns:  []api.Kern{{Left: 1, Right: 2, Value: -50}, {Left: 2, Right: 1, Value: 30}},
		Glyphs: list(shape(o[0]...), shape(o[1]...), shape(o[2]...), parts(compose.Plain(1, 0, 0), compose.Plain(2, 100, -20)), nil, parts(compose.Plain(5, 0, 0))),
	}
}

// Charstrings: dash draws a line, square a square of 500 units, chance one line as far as a draw says, endless a subroutine that calls itself.
var (
	dash    = []byte{139, 139, 21, 239, 6, 14}
	square  = []byte{139, 139, 21, 28, 1, 244, 28, 1, 244, 28, 254, 12, 6, 14}
	chance  = []byte{139, 139, 21, 12, 23, 6, 14}
	endless = []byte{139, 139, 21, 32, 10, 14}
)

// cffParts is a font of charstrings.
func cffParts() api.FontParts {
	return api.FontParts{
		Units:  500,
		Lines:  api.Lines{Ascent: 400, Descent: -100, Gap: 0},
		Advs:   []api.Metric{{Advance: 100, Bearing: 0}, {Advance: 200, Bearing: 1}, {Advance: 300, Bearing: 2}, {Advance: 400, Bearing: 3}},
		Own:    4,
		Codes:  []api.Pair{{Code: 97, Glyph: 1}, {Code: 98, Glyph: 2}, {Code: 0x1F600, Glyph: 3}},
		Format: 12,
		Cff: api.CffParts{
			Codes:    list(dash, square, chance, endless),
			Families: list(api.Family{Local: [][]byte{{32, 10, 11}}, Default: 500}),
			Names:    list(0, 1, 2, 3),
		},
	}
}

// loaded is a font that may be.
func loaded(t *testing.T, b []byte) *font.Font {
	t.Helper()
	f, e := font.Load(b)
	if f == nil || e != api.OK {
		t.Fatal("Load", f, e)
	}
	return f
}

// built is the bytes of a font that may be.
func built(t *testing.T, p api.FontParts) []byte {
	t.Helper()
	b, e := font.Build(p)
	if e != api.OK {
		t.Fatal("Build", e)
	}
	return b
}

// number is a number of that many bytes.
func number(x, width int) []byte {
	b := make([]byte, width)
	for i := range b {
		b[width-1-i] = byte(x)
		x >>= 8
	}
	return b
}

// numbers is numbers of 2 bytes each.
func numbers(l ...int) []byte {
	var b []byte
	for _, x := range l {
		b = append(b, number(x, 2)...)
	}
	return b
}

// value is the number that bytes are.
func value(b []byte) int {
	x := 0
	for _, c := range b {
		x = 256*x + int(c)
	}
	return x
}

// sheet is a font's tables by their tags, and its version.
type sheet struct {
	version int
	tables  map[string][]byte
}

// sheetOf takes a font apart that may be.
func sheetOf(b []byte) sheet {
	s := sheet{version: value(b[:4]), tables: map[string][]byte{}}
	for i := range value(b[4:6]) {
		entry := b[12+16*i:]
		at, n := value(entry[8:12]), value(entry[12:16])
		s.tables[string(entry[:4])] = slices.Clone(b[at : at+n])
	}
	return s
}

func (s sheet) clone() sheet {
	c := sheet{version: s.version, tables: map[string][]byte{}}
	for tag, table := range s.tables {
		c.tables[tag] = slices.Clone(table)
	}
	return c
}

// without is the same font, but for a table.
func (s sheet) without(tag string) sheet {
	c := s.clone()
	delete(c.tables, tag)
	return c
}

// with is the same font, but for a table that is another one.
func (s sheet) with(tag string, table ...byte) sheet {
	c := s.clone()
	c.tables[tag] = table
	return c
}

func plainSum(b []byte) int {
	sum := 0
	for i, c := range b {
		sum += int(c) << (24 - 8*(i%4))
	}
	return sum & 0xFFFFFFFF
}

// bytes puts a font together as chapter 4 says; head's bytes 8 to 11 too.
func (s sheet) bytes() []byte {
	tags := slices.Sorted(maps.Keys(s.tables))
	n := len(tags)
	power := 1 << (bits.Len(uint(n)) - 1)
	b := slices.Concat(number(s.version, 4), numbers(n, 16*power, bits.Len(uint(n))-1, 16*n-16*power))
	var data []byte
	headAt := -1
	for _, tag := range tags {
		table := slices.Clone(s.tables[tag])
		if at := 12 + 16*n + len(data); tag == "head" && len(table) >= 12 {
			headAt = at + 8
			clear(table[8:12])
		}
		b = slices.Concat(b, []byte(tag), number(plainSum(table), 4), number(12+16*n+len(data), 4), number(len(table), 4))
		data = append(data, table...)
		for len(data)%4 != 0 {
			data = append(data, 0)
		}
	}
	b = append(b, data...)
	if headAt >= 0 {
		copy(b[headAt:], number(0xB1B0AFBA-plainSum(b), 4))
	}
	return b
}

// small is a font that is told byte by byte below: one glyph without an outline, one that is a triangle.
func small() api.FontParts {
	return api.FontParts{
		Units:  64,
		Lines:  api.Lines{Ascent: 50, Descent: -14, Gap: 3},
		Advs:   []api.Metric{{Advance: 32, Bearing: -1}, {Advance: 40, Bearing: 2}},
		Own:    2,
		Codes:  []api.Pair{{Code: 65, Glyph: 1}},
		Format: 6,
		Glyphs: list(nil, shape(list(on(0, 0), on(100, 0), on(0, 100)))),
	}
}

// smallSheet is the tables of that font.
func smallSheet() sheet {
	return sheet{version: 0x00010000, tables: map[string][]byte{
		"head": slices.Concat(numbers(1, 0, 0, 0, 0, 0), number(0x5F0F3CF5, 4), numbers(0, 64), make([]byte, 16), numbers(0, 0, 0, 0, 0, 0, 0, 0, 0)),
		"maxp": slices.Concat(number(0x00010000, 4), numbers(2), make([]byte, 26)),
		"hhea": slices.Concat(numbers(1, 0, 50, -14, 3), make([]byte, 22), numbers(0, 2)),
		"hmtx": numbers(32, -1, 40, 2),
		"cmap": slices.Concat(numbers(0, 1, 3, 1), number(12, 4), numbers(6, 12, 0, 65, 1, 1)),
		"glyf": slices.Concat(numbers(1, 0, 0, 100, 100, 2, 0), list[byte](0x31, 0x33, 0x27, 100, 100, 100)),
		"loca": numbers(0, 0, 10),
	}}
}
