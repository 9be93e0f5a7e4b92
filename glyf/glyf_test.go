package glyf_test

import (
	"bytes"
	"math"
	"math/rand"
	"slices"
	"sync"
	"testing"

	"serif/affine"
	"serif/api"
	"serif/compose"
	"serif/glyf"
	"serif/metric"
	"serif/simple"
)

const one = api.One16

// on and quad are points, in whole units.
func on(x, y int) api.Point { return api.Point{X: x * one, Y: y * one, Kind: api.PointOn} }

func quad(x, y int) api.Point { return api.Point{X: x * one, Y: y * one, Kind: api.PointQuad} }

// list is things one behind the other; contours is an outline.
func list[T any](l ...T) []T { return l }

func contours(l ...[]api.Point) [][]api.Point { return l }

func triangle() []api.Point { return list(on(0, 0), on(100, 0), quad(0, 50)) }

// plain, turned, matched are parts of each kind; behind is one with another matrix.
func plain(glyph, dx, dy int) api.Part { return compose.Plain(glyph, dx, dy) }

func turned(glyph, dx, dy int) api.Part {
	return api.Part{Glyph: glyph, M: affine.One(), DX: dx, DY: dy, Turned: true}
}

func matched(glyph, parent, child int) api.Part {
	return api.Part{Glyph: glyph, M: affine.One(), Matched: true, Parent: parent, Child: child}
}

func behind(p api.Part, xx, xy, yx, yy int) api.Part {
	p.M = api.Matrix{XX: xx, XY: xy, YX: yx, YY: yy}
	return p
}

// shape is the bytes of a simple glyph; parts is those of a composite one.
func shape(o ...[]api.Point) []byte {
	b, e := simple.Encode(o)
	if e != api.OK {
		panic(e)
	}
	return b
}

func parts(l ...api.Part) []byte {
	b, e := compose.Encode(l)
	if e != api.OK {
		panic(e)
	}
	return b
}

// placed is places at these offsets.
func placed(t *testing.T, offsets ...int) *metric.Places {
	t.Helper()
	b, e := metric.PutPlaces(offsets, true)
	if e != api.OK {
		t.Fatal("PutPlaces", e)
	}
	p, e := metric.LoadPlaces(b, len(offsets)-1, true, api.MaxFile)
	if e != api.OK {
		t.Fatal("LoadPlaces", e)
	}
	return p
}

// table is a table of these glyphs' bytes, one behind the other just as they are, with bytes ahead and behind.
func table(t *testing.T, glyphs ...[]byte) *glyf.Table {
	t.Helper()
	b := list[byte](9, 9, 9)
	offsets := list(len(b))
	for _, g := range glyphs {
		b = append(b, g...)
		offsets = append(offsets, len(b))
	}
	x, e := glyf.New(append(b, 0, 1, 0xFF, 0xFF, 5), placed(t, offsets...))
	if e != api.OK || x == nil {
		t.Fatal("New", x, e)
	}
	return x
}

// reckoner is what the chapter says of glyphs' bytes; the numbers are its own.
type reckoner struct {
	glyphs [][]byte
	gone   int
}

func floorDiv(a, b int) int {
	q := a / b
	if q*b > a {
		q--
	}
	return q
}

func may(l ...int) bool {
	for _, x := range l {
		if x < -1<<31 || x > 1<<31 {
			return false
		}
	}
	return true
}

// turn is a place behind a matrix, which may be too far away.
func turn(m api.Matrix, x, y int) (int, int) {
	return floorDiv(x*m.XX+y*m.YX+8192, 16384), floorDiv(x*m.XY+y*m.YY+8192, 16384)
}

// moved is an outline behind a matrix and further on, or false, if one of its places may not be.
func moved(o [][]api.Point, m api.Matrix, dx, dy int) ([][]api.Point, bool) {
	ok := may(dx, dy)
	var all [][]api.Point
	for _, c := range o {
		var d []api.Point
		for _, p := range c {
			x, y := turn(m, p.X, p.Y)
			ok = ok && may(x, y, x+dx, y+dy)
			d = append(d, api.Point{X: x + dx, Y: y + dy, Kind: p.Kind})
		}
		all = append(all, d)
	}
	return all, ok
}

func (r *reckoner) outline(glyph, depth int) ([][]api.Point, api.Errno) {
	if glyph < 0 || glyph >= len(r.glyphs) {
		return nil, api.ErrGlyph
	}
	b := r.glyphs[glyph]
	if len(b) < 2 || b[0] < 128 {
		return simple.Decode(b)
	}
	if depth == 6 {
		return nil, api.ErrDepth
	}
	l, e := compose.Decode(b)
	if e != api.OK {
		return nil, e
	}
	var all [][]api.Point
	for _, p := range l {
		if r.gone == 1024 {
			return nil, api.ErrParts
		}
		r.gone++
		o, e := r.outline(p.Glyph, depth+1)
		if e != api.OK {
			return nil, e
		}
		if o, e = put(all, o, p); e != api.OK {
			return nil, e
		}
		all = append(all, o...)
		if len(all) > 256 || len(slices.Concat(all...)) > 4096 {
			return nil, api.ErrPoints
		}
	}
	return all, api.OK
}

// put is a part's outline in its place.
func put(all, o [][]api.Point, p api.Part) ([][]api.Point, api.Errno) {
	dx, dy := p.DX*65536, p.DY*65536
	if p.Turned {
		dx, dy = turn(p.M, dx, dy)
	}
	o, ok := moved(o, p.M, dx, dy)
	if !ok {
		return nil, api.ErrOver
	}
	if !p.Matched {
		return o, api.OK
	}
	here, there := slices.Concat(all...), slices.Concat(o...)
	if p.Parent >= len(here) || p.Child >= len(there) {
		return nil, api.ErrParts
	}
	at, from := here[p.Parent], there[p.Child]
	if o, ok = moved(o, api.Matrix{XX: 16384, YY: 16384}, at.X-from.X, at.Y-from.Y); !ok {
		return nil, api.ErrOver
	}
	return o, api.OK
}

func same(a, b [][]api.Point) bool {
	return slices.EqualFunc(a, b, func(c, d []api.Point) bool { return slices.Equal(c, d) })
}

// draws asks for a glyph's outline, and how many parts are gone to for it.
func draws(t *testing.T, x *glyf.Table, glyph int, want [][]api.Point, visits int) {
	t.Helper()
	if o, e := x.Outline(glyph); e != api.OK || !same(o, want) {
		t.Errorf("Outline(%d): %v %d, want %v", glyph, o, e, want)
	}
	if n, e := x.Visits(glyph); e != api.OK || n != visits {
		t.Errorf("Visits(%d): %d %d, want %d", glyph, n, e, visits)
	}
}

// refuses asks for an error, and nothing beside it.
func refuses(t *testing.T, x *glyf.Table, glyph int, want api.Errno) {
	t.Helper()
	if o, e := x.Outline(glyph); e != want || len(o) != 0 {
		t.Errorf("Outline(%d): %v %d, want %d", glyph, o, e, want)
	}
	if n, e := x.Visits(glyph); e != want || n != 0 {
		t.Errorf("Visits(%d): %d %d, want %d", glyph, n, e, want)
	}
}

// asIsPlain asks that a glyph is drawn, or refused, as by the plain reckoning, and tells how.
func asIsPlain(t *testing.T, x *glyf.Table, glyphs [][]byte, glyph int) api.Errno {
	t.Helper()
	r := reckoner{glyphs: glyphs}
	o, e := r.outline(glyph, 0)
	if e == api.OK {
		draws(t, x, glyph, o, r.gone)
	} else {
		refuses(t, x, glyph, e)
	}
	return e
}

// beyond is glyphs that are none of n.
func beyond(n int) []int {
	return list(-1, n, n+1, -n-1, n+1<<16, n+1<<32, -1<<32, math.MinInt, math.MaxInt)
}

func TestExampleOfGlyf(t *testing.T) {
	x := table(t, shape(triangle()), parts(plain(0, 10, 0)))
	draws(t, x, 0, contours(triangle()), 0)
	draws(t, x, 1, contours(list(on(10, 0), on(110, 0), quad(10, 50))), 1)
	o, _ := x.Outline(1)
	for i, p := range o[0] {
		if p.X != triangle()[i].X+655360 {
			t.Error(i, p)
		}
	}
}

// TestNew: places end within the bytes.
func TestNew(t *testing.T) {
	for _, b := range [][]byte{nil, {}, {1, 2, 3}} {
		if x, e := glyf.New(b, nil); x != nil || e != api.ErrArg {
			t.Error(x, e)
		}
	}
	for _, c := range []struct {
		bytes   int
		offsets []int
		want    api.Errno
	}{
		{0, list(0, 0), api.OK},
		{0, list(0, 0, 0, 0), api.OK},
		{0, list(0, 1), api.ErrArg},
		{0, list(1, 1), api.ErrArg},
		{9, list(0, 9), api.OK},
		{9, list(0, 10), api.ErrArg},
		{9, list(9, 9), api.OK},
		{9, list(10, 10), api.ErrArg},
		{9, list(0, 1, 2, 3), api.OK},
		{9, list(0, 1, 2, 9), api.OK},
		{9, list(0, 1, 2, 10), api.ErrArg},
		{9, list(0, 0, 0, 1<<20), api.ErrArg},
		{1 << 20, list(0, 0, 0, 1<<20), api.OK},
		{1<<20 - 1, list(0, 0, 0, 1<<20), api.ErrArg},
		{1 << 21, list(5, 1<<20), api.OK},
	} {
		x, e := glyf.New(make([]byte, c.bytes), placed(t, c.offsets...))
		if e != c.want || (x != nil) != (e == api.OK) {
			t.Error(c.bytes, c.offsets, e)
		}
		if e == api.OK && x.Len() != len(c.offsets)-1 {
			t.Error(c.offsets, x.Len())
		}
	}
	// What lies in the room behind the end is not there.
	room := make([]byte, 20)
	if x, e := glyf.New(room[:9], placed(t, 0, 10)); x != nil || e != api.ErrArg {
		t.Error(x, e)
	}
}

func TestBytes(t *testing.T) {
	b := list[byte](1, 2, 3, 4, 5, 6, 7, 8, 9)
	offsets := list(1, 1, 3, 3, 7, 8)
	x, _ := glyf.New(b, placed(t, offsets...))
	if x.Len() != 5 {
		t.Error(x.Len())
	}
	for glyph := range 5 {
		if have, e := x.Bytes(glyph); e != api.OK || !bytes.Equal(have, b[offsets[glyph]:offsets[glyph+1]]) {
			t.Error(glyph, have, e)
		}
	}
	for _, glyph := range beyond(5) {
		if have, e := x.Bytes(glyph); e != api.ErrGlyph || len(have) != 0 {
			t.Error(glyph, have, e)
		}
		refuses(t, x, glyph, api.ErrGlyph)
	}
}

func TestMostGlyphs(t *testing.T) {
	l := make([][]byte, api.MaxGlyphs)
	l[1] = shape(triangle())
	l[api.MaxGlyphs-1] = parts(plain(1, 1, 1))
	x := table(t, l...)
	if x.Len() != api.MaxGlyphs {
		t.Error(x.Len())
	}
	draws(t, x, api.MaxGlyphs-1, contours(list(on(1, 1), on(101, 1), quad(1, 51))), 1)
	draws(t, x, api.MaxGlyphs-2, nil, 0)
	refuses(t, x, api.MaxGlyphs, api.ErrGlyph)
}

// TestSimpleGlyphs: what Decode says, or refuses, of bytes of Kind 0 and 1.
func TestSimpleGlyphs(t *testing.T) {
	two := contours(triangle(), list(quad(-5, 7), quad(3, -32760), on(32767, 4)))
	long := append(shape(two...), 1, 2, 3)
	x := table(t, nil, shape(two...), long, list[byte](0), list[byte](200), long[:9], list[byte](1, 1, 0, 0, 0, 0, 0, 0, 0, 0), list[byte](0, 0, 1, 2, 3, 4, 5, 6, 7, 8, 0, 0))
	draws(t, x, 0, nil, 0)
	draws(t, x, 1, two, 0)
	draws(t, x, 2, two, 0)
	refuses(t, x, 3, api.ErrGlyf)
	refuses(t, x, 4, api.ErrGlyf) // one byte alone is no composite glyph
	refuses(t, x, 5, api.ErrGlyf)
	refuses(t, x, 6, api.ErrPoints)
	draws(t, x, 7, nil, 0)
	refuses(t, x, 8, api.ErrGlyph)
	// A glyph's bytes end with it, though others follow.
	b := shape(two...)
	x = table(t, b[:len(b)-1], b[len(b)-1:])
	refuses(t, x, 0, api.ErrGlyf)
}

// TestCompositeBytes: what Decode refuses of bytes of Kind 2; the glyphs of its parts are not looked at then.
func TestCompositeBytes(t *testing.T) {
	b := parts(plain(9, 1, 1), plain(0, 2, 2))
	many := parts(slices.Repeat(list(plain(9, 1, 1)), 64)...)
	many[len(many)-5] |= 0x20 // another one follows
	x := table(t, shape(triangle()), b, append(slices.Clone(b), 7, 7), b[:len(b)-1], b[:2], b[:10], list[byte](0x80, 0), many)
	refuses(t, x, 1, api.ErrGlyph)
	refuses(t, x, 2, api.ErrGlyph)
	refuses(t, x, 3, api.ErrGlyf)
	refuses(t, x, 4, api.ErrGlyf)
	refuses(t, x, 5, api.ErrGlyf)
	refuses(t, x, 6, api.ErrGlyf)
	if _, e := compose.Decode(many); e != api.ErrParts {
		t.Fatal("not too many", e)
	}
	refuses(t, x, 7, api.ErrParts)
}

// TestSteps: parts that are further on, behind a matrix or not.
func TestSteps(t *testing.T) {
	const half, full = 8192, 16384
	base := contours(triangle())
	for name, c := range map[string]struct {
		p    api.Part
		want []api.Point
	}{
		"nothing":             {plain(0, 0, 0), triangle()},
		"further on":          {plain(0, 7, -8), list(on(7, -8), on(107, -8), quad(7, 42))},
		"farthest":            {plain(0, -32768, 32767-50), list(on(-32768, 32717), on(-32668, 32717), quad(-32768, 32767))},
		"turned, no matrix":   {turned(0, 7, -8), list(on(7, -8), on(107, -8), quad(7, 42))},
		"half":                {behind(plain(0, 7, -8), half, 0, 0, half), list(on(7, -8), on(57, -8), quad(7, 17))},
		"half, and its step":  {behind(turned(0, 8, -8), half, 0, 0, half), list(on(4, -4), on(54, -4), quad(4, 21))},
		"a quarter turn":      {behind(plain(0, 7, -8), 0, full, -full, 0), list(on(7, -8), on(7, 92), quad(-43, -8))},
		"and its step":        {behind(turned(0, 7, -8), 0, full, -full, 0), list(on(8, 7), on(8, 107), quad(-42, 7))},
		"mirrored":            {behind(plain(0, 1, 2), -full, 0, 0, full), list(on(1, 2), on(-99, 2), quad(1, 52))},
		"twice as wide":       {behind(turned(0, 1, 2), -2*full, 0, 0, full), list(on(-2, 2), on(-202, 2), quad(-2, 52))},
		"to a place":          {behind(plain(0, 3, 4), 0, 0, 0, 0), list(on(3, 4), on(3, 4), quad(3, 4))},
		"to the first place":  {behind(turned(0, 3, 4), 0, 0, 0, 0), list(on(0, 0), on(0, 0), quad(0, 0))},
		"each number":         {behind(plain(0, 1, 1), full, half, -half, -full), list(on(1, 1), on(101, 51), quad(-24, -49))},
		"each number, turned": {behind(turned(0, 2, 4), full, half, -half, -full), list(on(0, -3), on(100, 47), quad(-25, -53))},
	} {
		x := table(t, shape(base...), parts(c.p))
		o, e := x.Outline(1)
		if e != api.OK || !same(o, contours(c.want)) {
			t.Error(name, o, e, c.want)
		}
		asIsPlain(t, x, list(shape(base...), parts(c.p)), 1)
	}
}

// TestRounding: points and steps behind a matrix are rounded each for itself.
func TestRounding(t *testing.T) {
	base := shape(list(on(1, -1), on(3, 5)))
	for _, m := range []api.Matrix{{XX: 1, YY: 1}, {XX: 3, XY: -5, YX: 7, YY: -9}, {XX: 16383, YY: 16385}, {XX: 32767, XY: -32768, YX: -1, YY: 1}} {
		for dx := -3; dx <= 3; dx++ {
			for _, p := range list(plain(0, dx, 1-dx), turned(0, dx, 2*dx+1)) {
				p.M = m
				// Twice, so that what is rounded is rounded again.
				glyphs := list(base, parts(p), parts(plain(0, 1, 1), func() api.Part { p.Glyph = 1; return p }()))
				x := table(t, glyphs...)
				if asIsPlain(t, x, glyphs, 1) != api.OK || asIsPlain(t, x, glyphs, 2) != api.OK {
					t.Error(m, dx)
				}
			}
		}
	}
	x := table(t, base, parts(behind(turned(0, 1, 0), 1, 0, 0, 1)))
	// 65536 / 16384 is 4; -4 rounds to itself, 3 units to 12, 5 to 20.
	at := func(x, y int) api.Point { return api.Point{X: x, Y: y, Kind: api.PointOn} }
	draws(t, x, 1, contours(list(at(8, -4), at(16, 20))), 1)
}

// TestSeveralParts: contours of all parts, one behind the other, in order.
func TestSeveralParts(t *testing.T) {
	a, b := list(on(1, 2)), list(quad(3, 4), on(5, 6))
	x := table(t, shape(a), shape(b, a), parts(plain(1, 0, 0), plain(0, 10, 20), plain(1, 1, 1)), nil, parts(plain(3, 5, 5), plain(0, 0, 0), plain(3, 1, 1)), parts(plain(3, 1, 2)))
	draws(t, x, 2, contours(b, a, list(on(11, 22)), list(quad(4, 5), on(6, 7)), list(on(2, 3))), 3)
	draws(t, x, 4, contours(a), 3)
	draws(t, x, 5, nil, 1)
	all := parts(slices.Repeat(list(plain(0, 1, 0)), 64)...)
	draws(t, table(t, shape(a), all), 1, slices.Repeat(contours(list(on(2, 2))), 64), 64)
}

// TestMatched brings a point of a part to where one of those ahead lies.
func TestMatched(t *testing.T) {
	a := contours(list(on(1, 2), on(11, 12)), list(quad(21, 22)), list(on(31, 32), on(41, 42), on(51, 52)))
	b := contours(list(on(0, 0)), list(on(100, 200), quad(300, 500)), list(quad(-7, 9)))
	here, there := slices.Concat(a...), slices.Concat(b...)
	for parent, p := range here {
		for child, c := range there {
			glyphs := list(shape(a...), shape(b...), parts(plain(0, 0, 0), matched(1, parent, child)))
			x := table(t, glyphs...)
			want, _ := moved(b, affine.One(), p.X-c.X, p.Y-c.Y)
			draws(t, x, 2, slices.Concat(a, want), 2)
			asIsPlain(t, x, glyphs, 2)
		}
	}
	for _, c := range [][2]int{{6, 0}, {0, 4}, {6, 4}, {65535, 0}, {0, 65535}, {7, 3}, {5, 5}} {
		x := table(t, shape(a...), shape(b...), parts(plain(0, 0, 0), matched(1, c[0], c[1])))
		refuses(t, x, 2, api.ErrParts)
	}
}

// TestMatchedFirst: there is no point ahead of the first part, nor in one that has none.
func TestMatchedFirst(t *testing.T) {
	x := table(t, shape(triangle()), nil,
		parts(matched(0, 0, 0)),
		parts(matched(1, 0, 0)),
		parts(plain(1, 0, 0), matched(0, 0, 0)),
		parts(plain(0, 0, 0), matched(1, 0, 0)),
		parts(plain(0, 0, 0), matched(0, 2, 2)),
		parts(plain(0, 5, 6), plain(0, 1, 1), matched(0, 3, 1)),
	)
	for glyph := 2; glyph <= 5; glyph++ {
		refuses(t, x, glyph, api.ErrParts)
	}
	draws(t, x, 6, contours(triangle(), triangle()), 2)
	// The third part goes to the first point of the second one, as that lies now.
	draws(t, x, 7, contours(list(on(5, 6), on(105, 6), quad(5, 56)), list(on(1, 1), on(101, 1), quad(1, 51)), list(on(-99, 1), on(1, 1), quad(-99, 51))), 3)
}

// TestMatchedBehindMatrix: the child's point is the one behind the matrix, the parent's where the part ahead was put.
func TestMatchedBehindMatrix(t *testing.T) {
	const half, full = 8192, 16384
	glyphs := list(shape(triangle()),
		parts(behind(plain(0, 40, 60), half, 0, 0, half), behind(matched(0, 1, 1), 0, full, -full, 0)),
		parts(plain(1, 1, 1), behind(matched(1, 5, 3), -full, 0, 0, -full)),
	)
	x := table(t, glyphs...)
	first := list(on(40, 60), on(90, 60), quad(40, 85))
	// Behind the matrix: (0, 0), (0, 100), (-50, 0); of these (0, 100) goes to (90, 60).
	second := list(on(90, -40), on(90, 60), quad(40, -40))
	draws(t, x, 1, contours(first, second), 2)
	asIsPlain(t, x, glyphs, 2)
	// The parts of another glyph count there alone.
	glyphs = list(shape(triangle()), parts(plain(0, 0, 0), plain(0, 1, 1)), parts(plain(1, 0, 0), plain(1, 0, 0)), parts(matched(0, 2, 0)), parts(plain(0, 0, 0), plain(3, 0, 0)))
	x = table(t, glyphs...)
	draws(t, x, 2, slices.Repeat(contours(triangle(), list(on(1, 1), on(101, 1), quad(1, 51))), 2), 6)
	refuses(t, x, 4, api.ErrParts)
}

// chain is glyph 0, and glyphs that are each a part of the next one.
func chain(n int, first []byte) [][]byte {
	glyphs := list(first)
	for i := range n {
		glyphs = append(glyphs, parts(plain(i, 1, 2)))
	}
	return glyphs
}

// TestDepth: parts are within parts six deep at most.
func TestDepth(t *testing.T) {
	glyphs := chain(9, shape(list(on(5, 5))))
	x := table(t, glyphs...)
	for glyph := range glyphs {
		if glyph <= 6 {
			draws(t, x, glyph, contours(list(on(5+glyph, 5+2*glyph))), glyph)
		} else {
			refuses(t, x, glyph, api.ErrDepth)
		}
	}
	// Where it is too deep, the parts are not looked at.
	for _, first := range [][]byte{parts(plain(0, 0, 0)), parts(plain(99, 0, 0)), {0xFF, 0xFF}, parts(plain(0, 0, 0))[:14]} {
		glyphs := chain(6, first)
		x := table(t, glyphs...)
		refuses(t, x, 6, api.ErrDepth)
		if e := asIsPlain(t, x, glyphs, 5); e == api.OK {
			t.Error("glyph 0 is", first)
		}
	}
	// A simple glyph six deep is looked at, whatever it is.
	refuses(t, table(t, chain(6, list[byte](0))...), 6, api.ErrGlyf)
	refuses(t, table(t, chain(6, list[byte](1, 1))...), 6, api.ErrPoints)
	draws(t, table(t, chain(6, nil)...), 6, nil, 6)
}

// TestPartsOfThemselves are refused, whichever way they come back to themselves.
func TestPartsOfThemselves(t *testing.T) {
	self := slices.Repeat(list(plain(0, 1, 1)), 64)
	x := table(t, parts(plain(0, 0, 0)), parts(plain(2, 0, 0)), parts(plain(3, 0, 0)), parts(plain(1, 0, 0)), parts(plain(5, 0, 0), plain(4, 0, 0)), shape(triangle()), parts(matched(6, 0, 0)))
	for glyph := range 5 {
		refuses(t, x, glyph, api.ErrDepth)
	}
	draws(t, x, 5, contours(triangle()), 0)
	refuses(t, x, 6, api.ErrDepth)
	refuses(t, table(t, parts(self...)), 0, api.ErrDepth)
}

// ladder is n glyphs: the first is these bytes, each other one width parts of the one ahead.
func ladder(n, width int, first []byte) [][]byte {
	glyphs := list(first)
	for i := range n {
		glyphs = append(glyphs, parts(slices.Repeat(list(plain(i, 0, 0)), width)...))
	}
	return glyphs
}

// TestMostVisits: 1024 parts are gone to, at whichever depths, and no more.
func TestMostVisits(t *testing.T) {
	for _, c := range []struct{ n, width, visits int }{
		{1, 64, 64}, {2, 31, 31 + 31*31}, {2, 32, 0}, {2, 64, 0}, {3, 9, 9 + 81 + 729}, {3, 10, 0}, {6, 2, 126}, {6, 3, 0}, {6, 64, 0}, {4, 5, 780}, {5, 4, 0},
	} {
		x := table(t, ladder(c.n, c.width, nil)...)
		if c.visits > 0 {
			draws(t, x, c.n, nil, c.visits)
		} else {
			refuses(t, x, c.n, api.ErrParts)
		}
	}
	// 16 glyphs of 63 parts are 1024; then one more, which need not be there.
	wide := parts(slices.Repeat(list(plain(0, 0, 0)), 63)...)
	all := slices.Repeat(list(plain(1, 0, 0)), 16)
	glyphs := list(nil, wide, parts(all...), parts(append(all, plain(0, 0, 0))...), parts(append(all, plain(99, 0, 0))...), parts(append(all, matched(0, 0, 0))...), parts(append(list(plain(0, 0, 0)), all...)...), parts(append(list(plain(99, 0, 0)), all...)...))
	x := table(t, glyphs...)
	draws(t, x, 2, nil, 1024)
	for glyph := 3; glyph <= 6; glyph++ {
		refuses(t, x, glyph, api.ErrParts)
	}
	refuses(t, x, 7, api.ErrGlyph)
	// Each call counts anew.
	for range 3 {
		draws(t, x, 2, nil, 1024)
		draws(t, x, 1, nil, 63)
	}
	// Ahead of what is too deep, and behind it.
	deep := chain(7, nil)
	draws(t, table(t, deep...), 6, nil, 6)
	deep = append(deep, wide, parts(append(slices.Repeat(list(plain(8, 0, 0)), 16), plain(7, 0, 0))...), parts(append(list(plain(7, 0, 0)), slices.Repeat(list(plain(8, 0, 0)), 17)...)...))
	x = table(t, deep...)
	refuses(t, x, 9, api.ErrParts)
	refuses(t, x, 10, api.ErrDepth)
}

func TestGlyphsThatAreNot(t *testing.T) {
	x := table(t, shape(triangle()), parts(plain(4, 0, 0)), parts(plain(65535, 0, 0)), parts(plain(0, 0, 0), matched(5, 0, 0)))
	for glyph := 1; glyph <= 3; glyph++ {
		refuses(t, x, glyph, api.ErrGlyph)
	}
	for _, glyph := range beyond(4) {
		refuses(t, x, glyph, api.ErrGlyph)
	}
	// Ahead of what is wrong with its points, and of its step.
	x = table(t, shape(triangle()), parts(matched(9, 9, 9)), parts(behind(turned(9, -32768, 0), -32768, 0, 0, 0)))
	refuses(t, x, 1, api.ErrGlyph)
	refuses(t, x, 2, api.ErrGlyph)
}

// TestFirstError: of two parts that are wrong, the first one's error is told.
func TestFirstError(t *testing.T) {
	const full = 16384
	deep := chain(6, parts(plain(0, 0, 0))) // glyph 6 is too deep
	far := list(on(32767, 0), on(0, -32768))
	glyphs := append(deep, list[byte](0), list[byte](1, 1), shape(far), shape(slices.Repeat(triangle(), 1300)), shape(triangle()))
	const broken, crowded, edge, large, plainOne = 7, 8, 9, 10, 11
	wrong := map[string]struct {
		ahead []api.Part
		p     api.Part
		e     api.Errno
	}{
		"depth":   {nil, plain(6, 0, 0), api.ErrDepth},
		"bytes":   {nil, plain(broken, 0, 0), api.ErrGlyf},
		"points":  {nil, plain(crowded, 0, 0), api.ErrPoints},
		"missing": {nil, plain(999, 0, 0), api.ErrGlyph},
		"over":    {nil, plain(edge, 2, 0), api.ErrOver},
		"step":    {nil, behind(turned(plainOne, -32768, 0), -2*full, 0, 0, 0), api.ErrOver},
		"match":   {nil, matched(plainOne, 9999, 0), api.ErrParts},
		"join":    {list(plain(large, 0, 0)), plain(large, 0, 0), api.ErrPoints},
	}
	for first, a := range wrong {
		l := slices.Concat(a.ahead, list(a.p))
		x := table(t, append(glyphs, parts(l...))...)
		refuses(t, x, 12, a.e)
		for _, b := range wrong {
			l := slices.Concat(list(plain(plainOne, 1, 1)), a.ahead, list(a.p), b.ahead, list(b.p))
			all := append(glyphs, parts(l...), parts(plain(12, 0, 0)))
			x := table(t, all...)
			refuses(t, x, 12, a.e)
			if e := asIsPlain(t, x, all, 13); e != a.e {
				t.Error(first, e)
			}
		}
	}
}

// TestOver: places that are too far away, by a step, by a matrix, or by what is matched.
func TestOver(t *testing.T) {
	const full = 16384
	right, left := shape(list(on(32767, 32767))), shape(list(on(-32768, -32768)))
	cases := []struct {
		l    []api.Part
		want api.Errno
	}{
		{list(plain(0, 1, 0)), api.OK}, // 2^31 may be
		{list(plain(0, 0, 1)), api.OK},
		{list(plain(0, 2, 0)), api.ErrOver},
		{list(plain(0, 0, 2)), api.ErrOver},
		{list(plain(1, -1, 0)), api.ErrOver},
		{list(plain(1, 0, -1)), api.ErrOver},
		{list(plain(1, 0, 0)), api.OK},
		{list(plain(2, -32768, -32768)), api.OK}, // of no points none is too far away
		{list(plain(2, 32767, 32767)), api.OK},
		{list(behind(plain(0, 0, 0), full, 0, 0, full)), api.OK},
		{list(behind(plain(0, 0, 0), full+1, 0, 0, full)), api.ErrOver},
		{list(behind(plain(0, 0, 0), full, 1, 0, full)), api.ErrOver},
		{list(behind(plain(1, 0, 0), full, 0, 0, full+1)), api.ErrOver},
		{list(behind(plain(1, 0, 0), -full, 0, 0, -full)), api.OK},
		// A point that is too far away does not come back by its step.
		{list(behind(plain(0, -32768, 0), 2*full-1, 0, 0, full)), api.ErrOver},
		{list(behind(plain(0, -32768, 0), full, 0, 0, full)), api.OK},
		// A step that is too far away is refused, also if there are no points.
		{list(behind(turned(2, -32768, 0), -2*full, 0, 0, full)), api.ErrOver},
		{list(behind(turned(2, -32768, 0), -full, 0, 0, full)), api.OK},
		{list(behind(turned(2, -32768, 0), -full-1, 0, 0, full)), api.ErrOver},
		{list(behind(turned(2, 0, 32767), full, 0, 0, full)), api.OK},
		{list(behind(turned(2, 0, 32767), full, 0, 0, full+1)), api.ErrOver},
		{list(behind(turned(2, 32767, 32767), full, 0, full, full)), api.ErrOver},
		{list(behind(plain(2, 32767, 32767), full, 0, full, full)), api.OK},
		// What is matched: both points, the way between them, and where that leads.
		{list(plain(0, 0, 0), matched(0, 0, 0)), api.OK},
		{list(plain(0, 0, 0), matched(1, 0, 0)), api.ErrOver}, // though it would lie where that one lies
		{list(plain(0, 1, 1), matched(1, 0, 0)), api.ErrOver}, // 2^32 from one to the other
		{list(plain(1, 0, 0), matched(0, 0, 0)), api.ErrOver},
		{list(plain(0, -16383, -16383), plain(1, 16384, 16384), matched(0, 1, 0)), api.ErrOver},
		{list(plain(0, -32767, -32767), matched(1, 0, 0)), api.OK}, // 2^31
		{list(plain(0, -32767, -32766), matched(1, 0, 0)), api.ErrOver},
		{list(plain(0, -32766, -32767), matched(1, 0, 0)), api.ErrOver},
		{list(plain(1, 32767, 32767), matched(0, 0, 0)), api.OK},
		{list(plain(1, 0, 32767), matched(0, 0, 0)), api.ErrOver},
		{list(plain(0, 0, 0), matched(3, 0, 0)), api.ErrOver},
		{list(plain(0, 0, 0), matched(3, 0, 1)), api.ErrOver},
		{list(plain(0, 0, 0), matched(3, 0, 2)), api.ErrOver},
		{list(plain(2, 0, 0), plain(3, 0, 0), matched(3, 1, 1)), api.OK},
		{list(plain(3, 0, 0), behind(matched(0, 0, 0), 2*full-1, 0, 0, full)), api.ErrOver},
		// Ahead of points that are not there.
		{list(plain(3, 0, 0), behind(matched(0, 99, 99), 2*full-1, 0, 0, full)), api.ErrOver},
		{list(plain(3, 0, 0), behind(matched(2, 99, 99), 2*full-1, 0, 0, full)), api.ErrParts},
	}
	for i, c := range cases {
		glyphs := list(right, left, nil, shape(list(on(-20000, 7), on(0, 20000), on(20000, 7))), parts(c.l...))
		x := table(t, glyphs...)
		if e := asIsPlain(t, x, glyphs, 4); e != c.want {
			t.Error(i, c.l, e, c.want)
		}
	}
}

// TestMostPoints: points and contours of all parts together.
func TestMostPoints(t *testing.T) {
	line := func(n int) []api.Point { return slices.Repeat(list(on(1, 2), quad(2, 1)), n/2+1)[:n] }
	for _, c := range []struct {
		a, b int
		want api.Errno
	}{
		{4095, 1, api.OK}, {4096, 1, api.ErrPoints}, {1, 4096, api.ErrPoints}, {2048, 2048, api.OK}, {2048, 2049, api.ErrPoints}, {4096, 4096, api.ErrPoints},
	} {
		glyphs := list(shape(line(c.a)), shape(line(c.b)), parts(plain(0, 1, 1), plain(1, 0, 0)), parts(plain(0, 0, 0), matched(1, 0, 0)), nil, parts(plain(4, 0, 0), plain(0, 1, 1), plain(4, 0, 0)))
		x := table(t, glyphs...)
		for glyph := 2; glyph <= 3; glyph++ {
			if e := asIsPlain(t, x, glyphs, glyph); e != c.want {
				t.Error(c.a, c.b, e)
			}
		}
		asIsPlain(t, x, glyphs, 5)
	}
	rings := func(n int) [][]api.Point { return slices.Repeat(contours(list(on(3, 3))), n) }
	for _, c := range []struct {
		a, b int
		want api.Errno
	}{
		{255, 1, api.OK}, {256, 1, api.ErrPoints}, {1, 256, api.ErrPoints}, {128, 128, api.OK}, {129, 128, api.ErrPoints},
	} {
		glyphs := list(shape(rings(c.a)...), shape(rings(c.b)...), parts(plain(0, 1, 1), plain(1, 0, 0)), parts(plain(0, 0, 0), matched(1, 0, 0)))
		x := table(t, glyphs...)
		for glyph := 2; glyph <= 3; glyph++ {
			if e := asIsPlain(t, x, glyphs, glyph); e != c.want {
				t.Error(c.a, c.b, e)
			}
		}
	}
	// Points that are not there are told ahead of too many.
	x := table(t, shape(line(4096)), parts(plain(0, 0, 0), matched(0, 4096, 0)), parts(plain(0, 0, 0), matched(0, 4095, 4095)))
	refuses(t, x, 1, api.ErrParts)
	refuses(t, x, 2, api.ErrPoints)
}

// TestLongestWay goes to 1024 parts of many points, which are but moved and refused at last.
func TestLongestWay(t *testing.T) {
	line := slices.Repeat(list(on(1, 2), quad(2, 1)), 2048)
	full := parts(append(list(plain(0, 0, 0)), slices.Repeat(list(plain(1, 0, 0)), 62)...)...)
	x := table(t, shape(line), nil, full, parts(append(slices.Repeat(list(plain(1, 0, 0)), 63), plain(2, 1, 1))...), parts(plain(2, 0, 0), plain(2, 0, 0)))
	want := slices.Repeat(list(on(2, 3), quad(3, 2)), 2048)
	draws(t, x, 3, contours(want), 64+63)
	refuses(t, x, 4, api.ErrPoints)
}

// builds asks for a table of glyphs, and that they are there again.
func builds(t *testing.T, l [][]byte) {
	t.Helper()
	b, offsets, e := glyf.Build(l)
	if e != api.OK || len(offsets) != len(l)+1 || offsets[0] != 0 || offsets[len(l)] != len(b) {
		t.Fatalf("Build of %d: %d bytes, %d offsets, %d", len(l), len(b), len(offsets), e)
	}
	for i, g := range l {
		part := b[offsets[i]:offsets[i+1]]
		if offsets[i]%4 != 0 || len(part) != (len(g)+3)/4*4 || !bytes.Equal(part[:len(g)], g) || bytes.Count(part[len(g):], list[byte](0)) != len(part)-len(g) {
			t.Fatalf("Build of %d: %d at %v: %v", len(l), i, offsets[i], part)
		}
	}
	x, e := glyf.New(b, placed(t, offsets...))
	if e != api.OK || x.Len() != len(l) {
		t.Fatalf("New of %d: %d", len(l), e)
	}
	for i, g := range l[:min(len(l), 300)] {
		if have, e := x.Bytes(i); e != api.OK || !bytes.HasPrefix(have, g) {
			t.Error(i, have, e)
		}
	}
}

func buildsNot(t *testing.T, l [][]byte, want api.Errno) {
	t.Helper()
	if b, offsets, e := glyf.Build(l); len(b) != 0 || len(offsets) != 0 || e != want {
		t.Errorf("Build of %d: %d bytes, %d offsets, %d, want %d", len(l), len(b), len(offsets), e, want)
	}
}

func TestBuild(t *testing.T) {
	b, offsets, e := glyf.Build([][]byte{{1}, {2, 3}, nil, {4, 5, 6}, {7, 8, 9, 10}, {}, {11, 12, 13, 14, 15}})
	if e != api.OK || !bytes.Equal(b, list[byte](1, 0, 0, 0, 2, 3, 0, 0, 4, 5, 6, 0, 7, 8, 9, 10, 11, 12, 13, 14, 15, 0, 0, 0)) || !slices.Equal(offsets, list(0, 4, 8, 8, 12, 16, 16, 24)) {
		t.Error(b, offsets, e)
	}
	builds(t, [][]byte{nil})
	builds(t, [][]byte{{}, nil, {}})
	for n := range 20 {
		for m := range 5 {
			builds(t, list(bytes.Repeat(list[byte](0xFF), n), bytes.Repeat(list[byte](7), m), nil, bytes.Repeat(list[byte](9), n+m)))
		}
	}
	buildsNot(t, nil, api.ErrArg)
	buildsNot(t, [][]byte{}, api.ErrArg)
}

// TestMostOfBuild: most glyphs, and most bytes; too many glyphs come first.
func TestMostOfBuild(t *testing.T) {
	const most = 1 << 20
	for _, n := range list(api.MaxGlyphs-1, api.MaxGlyphs) {
		l := make([][]byte, n)
		builds(t, l)
		l[0], l[n-1] = list[byte](1, 2, 3, 4, 5), list[byte](6)
		builds(t, l)
	}
	buildsNot(t, make([][]byte, api.MaxGlyphs+1), api.ErrArg)
	buildsNot(t, make([][]byte, 1<<20), api.ErrArg)
	large := make([]byte, most+1)
	buildsNot(t, append(make([][]byte, api.MaxGlyphs), large), api.ErrArg)
	for _, less := range list(0, 1, 2, 3, 4, 5) {
		builds(t, list(large[:most-less]))
		builds(t, list(large[:most-4-less], large[:4]))
		buildsNot(t, list(large[:most-less/4*4], large[:1+less]), api.ErrLong)
	}
	buildsNot(t, list(large), api.ErrLong)
	buildsNot(t, list(nil, large, nil), api.ErrLong)
	builds(t, list(large[:1], large[:most-4]))
	builds(t, list(large[:1], large[:most-7]))
	buildsNot(t, list(large[:1], large[:most-3]), api.ErrLong) // the padding counts, too
	buildsNot(t, list(large[:5], large[:most-7]), api.ErrLong)
	builds(t, slices.Repeat(list(large[:13]), 65535))
	buildsNot(t, slices.Repeat(list(large[:17]), 65535), api.ErrLong)
	buildsNot(t, slices.Repeat(list(large), 65535), api.ErrLong)
}

// TestBuiltOutlines: what was built has its outlines, whichever form its places have.
func TestBuiltOutlines(t *testing.T) {
	b, offsets, e := glyf.Build(list(shape(triangle()), nil, parts(plain(0, 1, 1), matched(0, 2, 1))))
	if e != api.OK {
		t.Fatal(e)
	}
	for _, long := range list(false, true) {
		loca, _ := metric.PutPlaces(offsets, long)
		p, e := metric.LoadPlaces(loca, 3, long, len(b))
		if e != api.OK {
			t.Fatal(long, e)
		}
		x, e := glyf.New(b, p)
		if e != api.OK {
			t.Fatal(long, e)
		}
		draws(t, x, 0, contours(triangle()), 0)
		draws(t, x, 1, nil, 0)
		draws(t, x, 2, contours(list(on(1, 1), on(101, 1), quad(1, 51)), list(on(-99, 51), on(1, 51), quad(-99, 101))), 2)
	}
}

func TestOfANilOne(t *testing.T) {
	var x *glyf.Table
	if x.Len() != 0 {
		t.Error(x.Len())
	}
	for _, glyph := range append(beyond(1), 0) {
		if b, e := x.Bytes(glyph); len(b) != 0 || e != api.ErrClosed {
			t.Error(glyph, b, e)
		}
		refuses(t, x, glyph, api.ErrClosed)
	}
}

// fill changes bytes, and those in the room behind them.
func fill(b []byte) {
	b = b[:cap(b)]
	for i := range b {
		b[i] = 0xAA
	}
}

// fillOutline changes an outline, and the room behind it.
func fillOutline(o [][]api.Point) {
	for _, c := range o[:cap(o)] {
		c = c[:cap(c)]
		for i := range c {
			c[i] = api.Point{X: 7, Y: 7, Kind: 7}
		}
	}
	clear(o[:cap(o)])
}

// TestMemory changes what was handed in, and what was answered, its spare room too.
func TestMemory(t *testing.T) {
	glyphs := list(shape(triangle(), list(on(9, 9))), parts(plain(0, 1, 1), plain(0, 0, 0), behind(turned(0, 3, 4), 5, 6, 7, 8)), parts(plain(0, 0, 0)))
	b := slices.Concat(glyphs...)
	offsets := list(0, len(glyphs[0]), len(b)-len(glyphs[2]), len(b))
	room := append(slices.Clone(b), 1, 2, 3)
	x, e := glyf.New(room[:len(b)], placed(t, offsets...))
	if e != api.OK {
		t.Fatal(e)
	}
	for range 2 {
		was := slices.Clone(room)
		for glyph := range glyphs {
			asIsPlain(t, x, glyphs, glyph)
			have, _ := x.Bytes(glyph)
			if !bytes.Equal(have, glyphs[glyph]) {
				t.Error(glyph, have)
			}
			fill(have)
			o, _ := x.Outline(glyph)
			fillOutline(o)
		}
		if !bytes.Equal(room, was) {
			t.Error("what was handed in is changed", room)
		}
		fill(room)
	}

	// The contours of one answer share nothing, though a part is there twice.
	o, _ := x.Outline(1)
	want, _ := (&reckoner{glyphs: glyphs}).outline(1, 0)
	for i := range o {
		c := o[i][:cap(o[i])]
		for j := range c {
			c[j] = api.Point{}
		}
		for j := i + 1; j < len(o); j++ {
			if !slices.Equal(o[j], want[j]) {
				t.Error("contours share something", i, j)
			}
		}
	}

	all := list[byte](1, 2, 3, 4, 5, 6, 7)
	handed := list(all[:1], all[1:4], all[2:2], all[:5])
	first, firstOffsets, _ := glyf.Build(handed)
	second, secondOffsets, _ := glyf.Build(handed)
	fill(first)
	clear(firstOffsets[:cap(firstOffsets)])
	if !bytes.Equal(all, list[byte](1, 2, 3, 4, 5, 6, 7)) || len(handed[1]) != 3 || len(handed[2]) != 0 {
		t.Error("changes what is handed in", all)
	}
	fill(all)
	if !bytes.Equal(second, list[byte](1, 0, 0, 0, 2, 3, 4, 0, 1, 2, 3, 4, 5, 0, 0, 0)) || !slices.Equal(secondOffsets, list(0, 4, 8, 8, 16)) {
		t.Error("keeps", second, secondOffsets)
	}
}

// TestAtOnce asks one table from several sides.
func TestAtOnce(t *testing.T) {
	glyphs := append(ladder(5, 3, shape(list(on(1, 1)))), parts(plain(0, 0, 0), plain(99, 0, 0)))
	x := table(t, glyphs...)
	var all sync.WaitGroup
	for range 8 {
		all.Go(func() {
			for range 5 {
				for glyph := range len(glyphs) {
					asIsPlain(t, x, glyphs, glyph)
				}
			}
		})
	}
	all.Wait()
}

// drawnShape is a simple glyph of a few contours, its places near or far.
func drawnShape(draw *rand.Rand) []byte {
	reach := list(10, 1000, 16000)[draw.Intn(3)]
	var o [][]api.Point
	for range draw.Intn(4) {
		var c []api.Point
		for range 1 + draw.Intn(4) {
			p := on(draw.Intn(2*reach)-reach, draw.Intn(2*reach)-reach)
			p.Kind = 1 + draw.Intn(2)
			c = append(c, p)
		}
		o = append(o, c)
	}
	return shape(o...)
}

// drawnPart is a part of one of n glyphs, of one that is not there now and then.
func drawnPart(draw *rand.Rand, n int) api.Part {
	number := func() int { return draw.Intn(1<<16) - 1<<15 }
	p := plain(draw.Intn(n), draw.Intn(2000)-1000, draw.Intn(2000)-1000)
	switch draw.Intn(8) {
	case 0:
		p.DX, p.DY = number(), number()
	case 1:
		p = behind(p, number(), number(), number(), number())
	case 2:
		p = behind(p, number()/2, 0, 0, number()/2)
	}
	if draw.Intn(40) == 0 {
		p.Glyph = n + draw.Intn(3)
	}
	switch draw.Intn(5) {
	case 0:
		p.Turned = true
	case 1:
		p.DX, p.DY, p.Matched = 0, 0, true
		p.Parent, p.Child = draw.Intn(5), draw.Intn(3)
	}
	return p
}

// drawnGlyphs is glyphs, whose parts are mostly of those ahead.
func drawnGlyphs(draw *rand.Rand) [][]byte {
	var glyphs [][]byte
	for glyph := range 12 {
		if draw.Intn(3) == 0 || glyph == 0 {
			glyphs = append(glyphs, drawnShape(draw))
			continue
		}
		var l []api.Part
		for range 1 + draw.Intn(4) {
			n := glyph
			if draw.Intn(30) == 0 {
				n = 12
			}
			l = append(l, drawnPart(draw, n))
		}
		glyphs = append(glyphs, parts(l...))
	}
	return glyphs
}

// TestDrawnGlyphs: whatever the glyphs, they are drawn, or refused, as by the plain reckoning.
func TestDrawnGlyphs(t *testing.T) {
	draw := rand.New(rand.NewSource(31))
	count := map[api.Errno]int{}
	for round := range 2500 {
		glyphs := drawnGlyphs(draw)
		for range round % 2 * draw.Intn(4) {
			if b := glyphs[draw.Intn(12)]; len(b) > 0 {
				b[draw.Intn(len(b))] ^= byte(1 << draw.Intn(8))
			}
		}
		x := table(t, glyphs...)
		for glyph := range glyphs {
			count[asIsPlain(t, x, glyphs, glyph)]++
		}
	}
	for _, e := range list(api.OK, api.ErrOver, api.ErrGlyph, api.ErrPoints, api.ErrGlyf, api.ErrParts, api.ErrDepth) {
		if count[e] < 50 {
			t.Error("not of all kinds:", e, count)
		}
	}
}

// TestDrawnBytes: any bytes at any places.
func TestDrawnBytes(t *testing.T) {
	draw := rand.New(rand.NewSource(32))
	for range 5000 {
		b := make([]byte, draw.Intn(200))
		for i := range b {
			b[i] = byte(draw.Intn(8))
			if draw.Intn(4) == 0 {
				b[i] = byte(draw.Intn(256))
			}
		}
		offsets := list(0)
		for range 1 + draw.Intn(8) {
			offsets = append(offsets, draw.Intn(len(b)+1))
		}
		slices.Sort(offsets)
		x, e := glyf.New(b, placed(t, offsets...))
		if e != api.OK {
			t.Fatal(e)
		}
		var glyphs [][]byte
		for i := range len(offsets) - 1 {
			glyphs = append(glyphs, b[offsets[i]:offsets[i+1]])
			if draw.Intn(2) == 0 && offsets[i] < offsets[i+1] {
				b[offsets[i]] |= 128 // a change behind the table's back
			}
		}
		x, _ = glyf.New(b, placed(t, offsets...))
		for glyph := range glyphs {
			asIsPlain(t, x, glyphs, glyph)
		}
	}
}
