package cover_test

import (
	"cmp"
	"math"
	"math/big"
	"math/rand"
	"slices"
	"sync"
	"testing"

	"serif/api"
	"serif/cover"
)

const most = 1 << 20

func dot(x, y int) api.Dot { return api.Dot{X: x, Y: y} }

func box(x0, y0, x1, y1 int) api.Box { return api.Box{X0: x0, Y0: y0, X1: x1, Y1: y1} }

// piece is a row, and the ends of a line's part within it.
type piece struct {
	row  int
	ends [2]api.Dot
}

// floor is that of a 64th.
func floor(x int) int { return int(math.Floor(float64(x) / 64)) }

// nearest is floor(a b / c + 1/2), of numbers of any size.
func nearest(a, b, c int) int {
	two, d := big.NewInt(2), big.NewInt(int64(c))
	n := new(big.Int).Mul(big.NewInt(int64(a)), big.NewInt(int64(b)))
	n.Add(n.Mul(n, two), d)
	return int(n.Div(n, d.Mul(d, two)).Int64()) // Div rounds down, d being above 0
}

// plainRows is a line cut by rows as the chapter writes it down, and its sign.
func plainRows(a, d api.Dot) ([]piece, int) {
	sign := 1
	if a.Y == d.Y {
		return nil, sign
	}
	if a.Y > d.Y {
		a, d, sign = d, a, -1
	}
	places := []api.Dot{a}
	for y := a.Y + 1; y < d.Y; y++ {
		if y%64 == 0 {
			places = append(places, dot(a.X+nearest(d.X-a.X, y-a.Y, d.Y-a.Y), y))
			y += 62
		}
	}
	places = append(places, d)
	var l []piece
	for i, p := range places[1:] {
		l = append(l, piece{floor(places[i].Y), [2]api.Dot{places[i], p}})
	}
	return l, sign
}

// plainColumns is a piece cut by columns: the places at which it is cut, and its ends.
func plainColumns(p piece) []api.Dot {
	a, b := p.ends[0], p.ends[1]
	abs := func(x int) int {
		if x < 0 {
			return -x
		}
		return x
	}
	var xs []int
	for x := min(a.X, b.X) + 1; x < max(a.X, b.X); x++ {
		if x%64 == 0 {
			xs = append(xs, x)
			x += 62
		}
	}
	if a.X > b.X {
		slices.Reverse(xs)
	}
	places := []api.Dot{a}
	for _, x := range xs {
		places = append(places, dot(x, a.Y+nearest(b.Y-a.Y, abs(x-a.X), abs(b.X-a.X))))
	}
	return append(places, b)
}

// plain is what lines left: of each pixel its Cover, and its Area.
type plain map[[2]int][2]int

func (p plain) line(a, d api.Dot) {
	rows, sign := plainRows(a, d)
	for _, r := range rows {
		places := plainColumns(r)
		for i, w := range places[1:] {
			u := places[i]
			c := floor(min(u.X, w.X))
			down := sign * (w.Y - u.Y)
			at := [2]int{c, r.row}
			was := p[at]
			p[at] = [2]int{was[0] + down, was[1] + down*((u.X-64*c)+(w.X-64*c))}
		}
	}
}

func (p plain) flat(l [][]api.Dot) {
	for _, line := range l {
		for i, d := range line {
			next := line[0]
			if i+1 < len(line) {
				next = line[i+1]
			}
			p.line(d, next)
		}
	}
}

// cells is those in which something is left, row by row.
func (p plain) cells() []api.Cell {
	var l []api.Cell
	for at, x := range p {
		if x != [2]int{} {
			l = append(l, api.Cell{X: at[0], Y: at[1], Cover: x[0], Area: x[1]})
		}
	}
	slices.SortFunc(l, func(a, b api.Cell) int { return cmp.Or(a.Y-b.Y, a.X-b.X) })
	return l
}

// of is new cells of a box that may be.
func of(t *testing.T, b api.Box) *cover.Cells {
	t.Helper()
	c, e := cover.New(b)
	if e != api.OK || c == nil {
		t.Fatal(b, c, e)
	}
	return c
}

// isLeft asks that in cells just this is left, by All, and by At of each cell, and around them.
func isLeft(t *testing.T, c *cover.Cells, p plain, what ...any) {
	t.Helper()
	if have, want := slices.Collect(c.All()), p.cells(); !slices.Equal(have, want) {
		t.Fatal(what, have, "but should be", want)
	}
	b := c.Box()
	for y := b.Y0 - 2; y < b.Y1+2; y++ {
		for x := b.X0 - 2; x < b.X1+3; x++ {
			if cover, area := c.At(x, y); [2]int{cover, area} != p[[2]int{x, y}] {
				t.Fatal(what, x, y, cover, area, p[[2]int{x, y}])
			}
		}
	}
}

func TestExample(t *testing.T) {
	c := of(t, box(0, 0, 1, 1))
	if e := c.Line(dot(0, 0), dot(64, 64)); e != api.OK {
		t.Error(e)
	}
	if cover, area := c.At(0, 0); cover != 64 || area != 64*64 {
		t.Error(cover, area)
	}
	if l := slices.Collect(c.All()); !slices.Equal(l, []api.Cell{{Cover: 64, Area: 64 * 64}}) {
		t.Error(l)
	}
}

func TestNew(t *testing.T) {
	for _, b := range []api.Box{
		box(0, 0, 1, 1), box(-1, -1, 0, 0), box(-16384, -16384, -16383, -16383), box(16383, 16383, 16384, 16384),
		box(0, 0, 2048, 2048), box(-1024, -1024, 1024, 1024), box(-16384, 0, 16384, 128), box(5, -16384, 133, 16384), box(-16384, 16383, 16384, 16384),
	} {
		c := of(t, b)
		if c.Box() != b {
			t.Error(b, c.Box())
		}
		for x := range c.All() {
			t.Error(b, "has", x)
		}
		for _, at := range [][2]int{{b.X0, b.Y0}, {b.X1, b.Y1 - 1}, {b.X0 - 1, b.Y0}, {b.X1 + 1, b.Y0}, {b.X0, b.Y1}, {b.X0, b.Y0 - 1}} {
			if cover, area := c.At(at[0], at[1]); cover != 0 || area != 0 {
				t.Error(b, at, cover, area)
			}
		}
	}
	far := 1 << 31
	for _, x := range []struct {
		b api.Box
		e api.Errno
	}{
		{api.Box{}, api.ErrArg}, {box(0, 0, 1, 0), api.ErrArg}, {box(0, 0, 0, 1), api.ErrArg}, {box(1, 0, 0, 1), api.ErrArg}, {box(0, 1, 1, 0), api.ErrArg}, {box(1, 1, 0, 0), api.ErrArg}, {box(5, 5, 5, 5), api.ErrArg},
		{box(-far-1, 0, 1, 1), api.ErrArg}, {box(0, -far-1, 1, 1), api.ErrArg}, {box(0, 0, far+1, 1), api.ErrArg}, {box(0, 0, 1, far+1), api.ErrArg},
		{box(math.MinInt, math.MinInt, math.MaxInt, math.MaxInt), api.ErrArg}, {box(math.MinInt, 0, 1, 1), api.ErrArg}, {box(0, 0, 1, math.MaxInt), api.ErrArg},
		{box(20000, 0, 20000, 1), api.ErrArg}, {box(-far, 5, far, 5), api.ErrArg}, {box(far, 0, -far, 1), api.ErrArg}, {box(0, 0, 1<<32+1, 1), api.ErrArg},
		{box(-16385, 0, -16384, 1), api.ErrMask}, {box(0, -16385, 1, -16384), api.ErrMask}, {box(16384, 0, 16385, 1), api.ErrMask}, {box(0, 16384, 1, 16385), api.ErrMask},
		{box(-16385, 0, 1, 1), api.ErrMask}, {box(0, -16385, 1, 1), api.ErrMask}, {box(0, 0, 16385, 1), api.ErrMask}, {box(0, 0, 1, 16385), api.ErrMask},
		{box(-far, -far, far, far), api.ErrMask}, {box(far-1, far-1, far, far), api.ErrMask}, {box(-far, 0, 1-far, 1), api.ErrMask},
		{box(0, 0, 2049, 2048), api.ErrMask}, {box(0, 0, 2048, 2049), api.ErrMask}, {box(-16384, 0, 16384, 129), api.ErrMask}, {box(0, -16384, 129, 16384), api.ErrMask}, {box(-16384, -16384, 16384, 16384), api.ErrMask},
	} {
		if c, e := cover.New(x.b); c != nil || e != x.e {
			t.Error(x.b, c, e, x.e)
		}
	}
}

// TestLinesInFull tells what single lines leave, cell by cell.
func TestLinesInFull(t *testing.T) {
	for _, x := range []struct {
		b    api.Box
		a, d api.Dot
		want []api.Cell
	}{
		{box(0, 0, 2, 2), dot(5, 5), dot(5, 5), nil},
		{box(0, 0, 2, 2), dot(0, 64), dot(128, 64), nil},
		{box(0, 0, 2, 2), dot(128, 128), dot(0, 128), nil},
		// straight down, and up
		{box(0, 0, 2, 2), dot(10, 0), dot(10, 64), []api.Cell{{X: 0, Y: 0, Cover: 64, Area: 64 * 20}}},
		{box(0, 0, 2, 2), dot(10, 64), dot(10, 0), []api.Cell{{X: 0, Y: 0, Cover: -64, Area: -64 * 20}}},
		{box(0, 0, 2, 2), dot(10, 3), dot(10, 4), []api.Cell{{X: 0, Y: 0, Cover: 1, Area: 20}}},
		{box(0, 0, 2, 2), dot(74, 60), dot(74, 70), []api.Cell{{X: 1, Y: 0, Cover: 4, Area: 80}, {X: 1, Y: 1, Cover: 6, Area: 120}}},
		// at the left edge of a pixel there is Cover, and no Area; at the box's right edge in the column behind it
		{box(0, 0, 2, 2), dot(0, 0), dot(0, 128), []api.Cell{{X: 0, Y: 0, Cover: 64}, {X: 0, Y: 1, Cover: 64}}},
		{box(0, 0, 2, 2), dot(64, 0), dot(64, 64), []api.Cell{{X: 1, Y: 0, Cover: 64}}},
		{box(0, 0, 2, 2), dot(128, 128), dot(128, 0), []api.Cell{{X: 2, Y: 0, Cover: -64}, {X: 2, Y: 1, Cover: -64}}},
		{box(-3, -3, -1, -1), dot(-64, -192), dot(-64, -190), []api.Cell{{X: -1, Y: -3, Cover: 2}}},
		// up to the right edge, and away from it: in the column ahead
		{box(0, 0, 2, 2), dot(120, 0), dot(128, 64), []api.Cell{{X: 1, Y: 0, Cover: 64, Area: 64 * (56 + 64)}}},
		{box(0, 0, 2, 2), dot(128, 64), dot(120, 128), []api.Cell{{X: 1, Y: 1, Cover: 64, Area: 64 * (56 + 64)}}},
		// aslant, over two columns, both ways
		{box(0, 0, 2, 2), dot(0, 0), dot(128, 64), []api.Cell{{X: 0, Y: 0, Cover: 32, Area: 32 * 64}, {X: 1, Y: 0, Cover: 32, Area: 32 * 64}}},
		{box(0, 0, 2, 2), dot(128, 0), dot(0, 64), []api.Cell{{X: 0, Y: 0, Cover: 32, Area: 32 * 64}, {X: 1, Y: 0, Cover: 32, Area: 32 * 64}}},
		{box(0, 0, 2, 2), dot(128, 64), dot(0, 0), []api.Cell{{X: 0, Y: 0, Cover: -32, Area: -32 * 64}, {X: 1, Y: 0, Cover: -32, Area: -32 * 64}}},
		// of two that are as near the greater one: at Y 64 the X is 0.5 and -0.5, so 1 and 0
		{box(-1, 0, 1, 2), dot(0, 0), dot(1, 128), []api.Cell{{X: 0, Y: 0, Cover: 64, Area: 64}, {X: 0, Y: 1, Cover: 64, Area: 64 * 2}}},
		{box(-1, 0, 1, 2), dot(0, 0), dot(-1, 128), []api.Cell{{X: 0, Y: 0, Cover: 64}, {X: -1, Y: 1, Cover: 64, Area: 64 * (64 + 63)}}},
		// from below it is turned, so that X is reckoned from above, too
		{box(-1, 0, 1, 2), dot(-1, 128), dot(0, 0), []api.Cell{{X: 0, Y: 0, Cover: -64}, {X: -1, Y: 1, Cover: -64, Area: -64 * (64 + 63)}}},
		// at X 64 the Y is 0.5, from the left and from the right, so 1
		{box(0, 0, 2, 1), dot(0, 0), dot(128, 1), []api.Cell{{X: 0, Y: 0, Cover: 1, Area: 64}}},
		{box(0, 0, 2, 1), dot(128, 0), dot(0, 1), []api.Cell{{X: 1, Y: 0, Cover: 1, Area: 64}}},
		// columns in the middle of a line that goes down nowhere there have nothing
		{box(0, 0, 4, 1), dot(0, 0), dot(256, 1), []api.Cell{{X: 1, Y: 0, Cover: 1, Area: 64}}},
		// a pixel far away
		{box(16383, -16384, 16384, -16383), dot(most-64, -most), dot(most, 64-most), []api.Cell{{X: 16383, Y: -16384, Cover: 64, Area: 64 * 64}}},
	} {
		c := of(t, x.b)
		if e := c.Line(x.a, x.d); e != api.OK {
			t.Error(x.a, x.d, e)
		}
		if l := slices.Collect(c.All()); !slices.Equal(l, x.want) {
			t.Error(x.a, x.d, l, x.want)
		}
		p := plain{}
		p.line(x.a, x.d)
		isLeft(t, c, p, x.a, x.d)
	}
}

// TestAllLines: all lines between dots of a grid, with the edges of pixels and what lies beside them.
func TestAllLines(t *testing.T) {
	for _, b := range []api.Box{box(0, 0, 2, 2), box(-1, -2, 1, 0), box(-100, 70, -98, 72)} {
		var dots []api.Dot
		for _, x := range []int{0, 1, 31, 63, 64, 65, 100, 128} {
			for _, y := range []int{0, 5, 64, 65, 127, 128} {
				dots = append(dots, dot(64*b.X0+x, 64*b.Y0+y))
			}
		}
		for _, a := range dots {
			for _, d := range dots {
				c, p := of(t, b), plain{}
				if e := c.Line(a, d); e != api.OK {
					t.Fatal(b, a, d, e)
				}
				p.line(a, d)
				isLeft(t, c, p, b, a, d)
				// The same one back leaves nothing.
				if e := c.Line(d, a); e != api.OK {
					t.Fatal(b, a, d, e)
				}
				isLeft(t, c, plain{}, "there and back", b, a, d)
			}
		}
	}
}

// drawnDot is a dot within a box, often at a pixel's edge, or at the box's.
func drawnDot(draw *rand.Rand, b api.Box) api.Dot {
	number := func(from, to int) int {
		switch draw.Intn(6) {
		case 0:
			return 64 * (from + draw.Intn(to-from+1))
		case 1:
			return 64 * []int{from, to}[draw.Intn(2)]
		}
		return 64*from + draw.Intn(64*(to-from)+1)
	}
	return dot(number(b.X0, b.X1), number(b.Y0, b.Y1))
}

// drawnBox is a box of a few pixels, or of one row or column.
func drawnBox(draw *rand.Rand) api.Box {
	x, y := draw.Intn(200)-100, draw.Intn(200)-100
	width, height := 1+draw.Intn(9), 1+draw.Intn(9)
	switch draw.Intn(8) {
	case 0:
		width = 100
	case 1:
		height = 100
	case 2:
		x, y = 16384-width, -16384
	}
	return box(x, y, x+width, y+height)
}

// drawnFlat is closed lines within a box.
func drawnFlat(draw *rand.Rand, b api.Box) [][]api.Dot {
	var l [][]api.Dot
	for range draw.Intn(4) {
		var line []api.Dot
		for range draw.Intn(7) {
			line = append(line, drawnDot(draw, b))
		}
		l = append(l, line)
	}
	return l
}

// TestDrawnLines: lines, closed ones too, one after another, held against a plain reckoning.
func TestDrawnLines(t *testing.T) {
	draw := rand.New(rand.NewSource(22))
	for range 1500 {
		b := drawnBox(draw)
		c, p := of(t, b), plain{}
		for range draw.Intn(5) {
			if draw.Intn(3) == 0 {
				l := drawnFlat(draw, b)
				p.flat(l)
				if e := c.Flat(l); e != api.OK {
					t.Fatal(b, l, e)
				}
				continue
			}
			a, d := drawnDot(draw, b), drawnDot(draw, b)
			p.line(a, d)
			if e := c.Line(a, d); e != api.OK {
				t.Fatal(b, a, d, e)
			}
		}
		isLeft(t, c, p, b)
		if c.Box() != b {
			t.Fatal(b, c.Box())
		}
	}
}

// TestCoversOfRows: of lines as far as they go down in a row, less as far as they go up; of closed ones 0.
func TestCoversOfRows(t *testing.T) {
	draw := rand.New(rand.NewSource(223))
	for range 500 {
		b := drawnBox(draw)
		c := of(t, b)
		if e := c.Flat(drawnFlat(draw, b)); e != api.OK {
			t.Fatal(e)
		}
		sums := map[int]int{}
		add := func() {
			for x := range c.All() {
				sums[x.Y] += x.Cover
			}
		}
		add()
		for y, sum := range sums {
			if sum != 0 {
				t.Fatal(b, "closed lines leave", sum, "in row", y)
			}
		}
		a, d := drawnDot(draw, b), drawnDot(draw, b)
		c.Line(a, d)
		clear(sums)
		add()
		for y := b.Y0; y < b.Y1; y++ {
			within := func(x int) int { return min(max(x, 64*y), 64*y+64) }
			if sums[y] != within(d.Y)-within(a.Y) {
				t.Fatal(b, a, d, y, sums[y])
			}
		}
	}
}

// TestFarLines: across the longest rows, the highest columns, and the most pixels, held against a plain reckoning.
func TestFarLines(t *testing.T) {
	for _, b := range []api.Box{box(-16384, -64, 16384, 64), box(-64, -16384, 64, 16384), box(-1024, -1024, 1024, 1024), box(14336, -16384, 16384, -14336)} {
		c, p := of(t, b), plain{}
		x0, y0, x1, y1 := 64*b.X0, 64*b.Y0, 64*b.X1, 64*b.Y1
		for _, l := range [][2]api.Dot{
			{dot(x0, y0), dot(x1, y1)}, {dot(x1, y0), dot(x0, y1)}, {dot(x0+1, y1-1), dot(x1-1, y0+2)}, {dot(x0+7, y1), dot(x0+70, y0)}, {dot(x1, y1), dot(x1, y0)}, {dot(x0, y0+3), dot(x1, y0+4)}, {dot(x1-5, y1-3), dot(x0+5, y1-66)},
		} {
			if e := c.Line(l[0], l[1]); e != api.OK {
				t.Fatal(b, l, e)
			}
			p.line(l[0], l[1])
		}
		if !slices.Equal(slices.Collect(c.All()), p.cells()) {
			t.Error(b, "other cells")
		}
	}
}

// TestManyLines: sums that need more than 32 bits.
func TestManyLines(t *testing.T) {
	c := of(t, box(0, 0, 1, 1))
	const n = 400000
	for range n {
		if e := c.Line(dot(63, 0), dot(63, 64)); e != api.OK {
			t.Fatal(e)
		}
	}
	if cover, area := c.At(0, 0); cover != 64*n || area != 64*126*n {
		t.Error(cover, area)
	}
}

// TestOutside: a number of a dot just beyond the box, and far away; then nothing is left, nor of the lines ahead.
func TestOutside(t *testing.T) {
	for _, b := range []api.Box{box(0, 0, 2, 3), box(-5, -9, -1, -7), box(16380, 16380, 16384, 16384)} {
		c, p := of(t, b), plain{}
		first := []api.Dot{dot(64*b.X0, 64*b.Y0), dot(64*b.X1, 64*b.Y1-1), dot(64*b.X0+9, 64*b.Y1)}
		p.flat([][]api.Dot{first})
		if e := c.Flat([][]api.Dot{first}); e != api.OK {
			t.Fatal(b, e)
		}
		isLeft(t, c, p, b)
		var outside []api.Dot
		for _, x := range []int{64*b.X0 - 1, 64*b.X1 + 1, 64*b.X0 - 64, math.MinInt, math.MaxInt, 1<<32 + 64*b.X0, 64*b.X0 - 1<<32, -1 << 40} {
			outside = append(outside, dot(x, 64*b.Y0), dot(x, 64*b.Y0+1))
		}
		for _, y := range []int{64*b.Y0 - 1, 64*b.Y1 + 1, 64*b.Y1 + 64, math.MinInt, math.MaxInt, 1<<32 + 64*b.Y0, 64*b.Y0 - 1<<32, 1 << 40} {
			outside = append(outside, dot(64*b.X0, y), dot(64*b.X0+1, y))
		}
		inside := first[1]
		for _, d := range outside {
			for _, line := range [][2]api.Dot{{inside, d}, {d, inside}, {d, d}, {d, dot(d.X+1, d.Y)}} {
				if e := c.Line(line[0], line[1]); e != api.ErrOver {
					t.Error(b, line, e)
				}
			}
			for _, l := range [][][]api.Dot{{{d}}, {first, {d}}, {first, first, {inside, first[0], d}}, {{d, inside}, first}, {{}, {inside, d, first[2]}}} {
				if e := c.Flat(l); e != api.ErrOver {
					t.Error(b, l, e)
				}
			}
		}
		isLeft(t, c, p, b)
	}
}

// TestFlat: what closed lines are refused with, and those that leave nothing.
func TestFlat(t *testing.T) {
	c := of(t, box(0, 0, 2, 2))
	row := func(n int) []api.Dot { return slices.Repeat([]api.Dot{dot(1, 1), dot(5, 60)}, n/2) }
	for name, x := range map[string]struct {
		l [][]api.Dot
		e api.Errno
	}{
		"nil":            {nil, api.OK},
		"empty":          {[][]api.Dot{{}, nil}, api.OK},
		"dots":           {[][]api.Dot{{dot(1, 1)}, {dot(128, 128)}}, api.OK},
		"there and back": {[][]api.Dot{{dot(1, 1), dot(100, 120)}}, api.OK},
		"level":          {[][]api.Dot{{dot(1, 50), dot(100, 50), dot(128, 50)}}, api.OK},
		"most dots":      {[][]api.Dot{row(65534), {dot(1, 1)}, {dot(2, 2)}}, api.OK},
		"more":           {[][]api.Dot{row(65536), {dot(1, 1)}}, api.ErrLong},
		"more, over":     {[][]api.Dot{{dot(most+1, 1)}, row(65536)}, api.ErrLong},
		"more, outside":  {[][]api.Dot{{dot(200, 1)}, row(65536)}, api.ErrLong},
		"over":           {[][]api.Dot{{dot(1, 1), dot(50, 50), dot(1, most+1)}}, api.ErrOver},
		"outside":        {[][]api.Dot{row(65534), {dot(1, 129)}}, api.ErrOver},
	} {
		if e := c.Flat(x.l); e != x.e {
			t.Error(name, e, x.e)
		}
		isLeft(t, c, plain{}, name)
	}
	// A triangle goes from the last dot to the first, too; where it begins is the same.
	triangle := []api.Dot{dot(3, 3), dot(120, 50), dot(60, 128)}
	p := plain{}
	p.line(triangle[0], triangle[1])
	p.line(triangle[1], triangle[2])
	p.line(triangle[2], triangle[0])
	for i := range 3 {
		c := of(t, box(0, 0, 2, 2))
		if e := c.Flat([][]api.Dot{append(slices.Clone(triangle[i:]), triangle[:i]...)}); e != api.OK {
			t.Error(e)
		}
		isLeft(t, c, p, i)
	}
	were := [][]api.Dot{slices.Clone(triangle)}
	l := [][]api.Dot{triangle[:2], triangle[:1]}
	if e := c.Flat(l); e != api.OK || !slices.Equal(triangle, were[0]) || len(l[0]) != 2 || len(l[1]) != 1 {
		t.Error("changes what is handed in")
	}
}

func rowsOf(a, d api.Dot) []piece {
	var l []piece
	for row, ends := range cover.Rows(a, d) {
		l = append(l, piece{row, ends})
	}
	return l
}

func TestRows(t *testing.T) {
	for _, x := range []struct {
		a, d api.Dot
		want []piece
	}{
		{dot(5, 5), dot(5, 5), nil},
		{dot(5, 64), dot(500, 64), nil},
		{dot(5, 5), dot(9, 6), []piece{{0, [2]api.Dot{dot(5, 5), dot(9, 6)}}}},
		{dot(9, 6), dot(5, 5), []piece{{0, [2]api.Dot{dot(5, 5), dot(9, 6)}}}},
		{dot(0, 0), dot(10, 64), []piece{{0, [2]api.Dot{dot(0, 0), dot(10, 64)}}}},
		{dot(0, 0), dot(10, 128), []piece{{0, [2]api.Dot{dot(0, 0), dot(5, 64)}}, {1, [2]api.Dot{dot(5, 64), dot(10, 128)}}}},
		{dot(-11, 128), dot(0, 0), []piece{{0, [2]api.Dot{dot(0, 0), dot(-5, 64)}}, {1, [2]api.Dot{dot(-5, 64), dot(-11, 128)}}}},
		{dot(11, 128), dot(0, 0), []piece{{0, [2]api.Dot{dot(0, 0), dot(6, 64)}}, {1, [2]api.Dot{dot(6, 64), dot(11, 128)}}}},
		{dot(0, -65), dot(0, 1), []piece{{-2, [2]api.Dot{dot(0, -65), dot(0, -64)}}, {-1, [2]api.Dot{dot(0, -64), dot(0, 0)}}, {0, [2]api.Dot{dot(0, 0), dot(0, 1)}}}},
		{dot(0, 63), dot(-200, 65), []piece{{0, [2]api.Dot{dot(0, 63), dot(-100, 64)}}, {1, [2]api.Dot{dot(-100, 64), dot(-200, 65)}}}},
	} {
		if l := rowsOf(x.a, x.d); !slices.Equal(l, x.want) {
			t.Error(x.a, x.d, l, x.want)
		}
	}
	draw := rand.New(rand.NewSource(222))
	for i := range 3000 {
		far := 1 << draw.Intn(14)
		if i%100 == 0 {
			far = most
		}
		number := func() int { return draw.Intn(2*far+1) - far }
		a, d := dot(number(), number()), dot(number(), number())
		want, _ := plainRows(a, d)
		if l := rowsOf(a, d); !slices.Equal(l, want) {
			t.Fatal(a, d, l, want)
		}
	}
	// the longest line
	l := rowsOf(dot(most, most), dot(-most, -most))
	if len(l) != 1<<15 || l[0] != (piece{-16384, [2]api.Dot{dot(-most, -most), dot(64-most, 64-most)}}) || l[1<<15-1] != (piece{16383, [2]api.Dot{dot(most-64, most-64), dot(most, most)}}) {
		t.Error(len(l))
	}
	for _, x := range []int{most + 1, -most - 1, 1 << 31, -1 << 31, 1 << 32, -1 << 32, math.MinInt, math.MaxInt} {
		for _, far := range []api.Dot{dot(x, 0), dot(0, x), dot(x, x)} {
			if a, b, c := rowsOf(far, dot(5, 70)), rowsOf(dot(5, 70), far), rowsOf(far, far); len(a)+len(b)+len(c) != 0 {
				t.Error(far, a, b, c)
			}
		}
	}
}

// stops stops an iterator at each of its items, begins it anew, and ranges over it within itself.
func stops[T comparable](t *testing.T, want []T, do func(each func(T) bool)) {
	t.Helper()
	if len(want) < 3 {
		t.Fatal("too few:", want)
	}
	for stop := range want {
		var l []T
		do(func(x T) bool { l = append(l, x); return len(l) <= stop })
		if !slices.Equal(l, want[:stop+1]) {
			t.Error(stop, l, want)
		}
	}
	i := 0
	do(func(x T) bool {
		var l []T
		do(func(y T) bool { l = append(l, y); return true })
		if x != want[i] || !slices.Equal(l, want) {
			t.Error(i, x, l)
		}
		i++
		return true
	})
	if i != len(want) {
		t.Error(i, len(want))
	}
}

func TestStops(t *testing.T) {
	for _, line := range [][2]api.Dot{{dot(0, 5), dot(130, 500)}, {dot(130, 500), dot(0, 5)}} {
		rows := cover.Rows(line[0], line[1])
		want, _ := plainRows(line[0], line[1])
		stops(t, want, func(each func(piece) bool) {
			for row, ends := range rows {
				if !each(piece{row, ends}) {
					break
				}
			}
		})
	}
	c, p := of(t, box(0, 0, 3, 8)), plain{}
	c.Line(dot(0, 5), dot(192, 500))
	p.line(dot(0, 5), dot(192, 500))
	cells := c.All()
	stops(t, p.cells(), func(each func(api.Cell) bool) {
		for x := range cells {
			if !each(x) {
				break
			}
		}
	})
	isLeft(t, c, p)
}

// TestAllIsAsTheCellsAre when it is ranged over.
func TestAllIsAsTheCellsAre(t *testing.T) {
	c, p := of(t, box(0, 0, 3, 3)), plain{}
	cells := c.All()
	for _, d := range []api.Dot{dot(100, 100), dot(192, 5), dot(0, 192)} {
		if l := slices.Collect(cells); !slices.Equal(l, p.cells()) {
			t.Error(d, l)
		}
		c.Line(dot(7, 7), d)
		p.line(dot(7, 7), d)
		if l := slices.Collect(cells); !slices.Equal(l, p.cells()) {
			t.Error(d, l)
		}
	}
}

// TestCellsAreTheirOwn: what is left in one's is not left in another's.
func TestCellsAreTheirOwn(t *testing.T) {
	a, b := of(t, box(0, 0, 3, 3)), of(t, box(0, 0, 3, 3))
	p, q := plain{}, plain{}
	for i := range 5 {
		a.Line(dot(i, 3*i), dot(100, 190))
		p.line(dot(i, 3*i), dot(100, 190))
		isLeft(t, a, p, i)
		isLeft(t, b, q, i)
		b.Line(dot(192, 192), dot(i, 3*i))
		q.line(dot(192, 192), dot(i, 3*i))
	}
	isLeft(t, a, p)
	isLeft(t, b, q)
}

func TestNil(t *testing.T) {
	var c *cover.Cells
	for _, d := range []api.Dot{{}, dot(1, 1), dot(math.MaxInt, 0)} {
		if e := c.Line(d, dot(5, 5)); e != api.ErrClosed {
			t.Error(d, e)
		}
		if e := c.Flat([][]api.Dot{{d}}); e != api.ErrClosed {
			t.Error(d, e)
		}
	}
	if e := c.Flat(nil); e != api.ErrClosed {
		t.Error(e)
	}
	for _, x := range []int{0, 1, -1, math.MinInt, math.MaxInt} {
		if cover, area := c.At(x, x); cover != 0 || area != 0 {
			t.Error(cover, area)
		}
	}
	if c.Box() != (api.Box{}) {
		t.Error(c.Box())
	}
	for x := range c.All() {
		t.Error(x)
	}
}

// TestAtFarAway: pixels of any number.
func TestAtFarAway(t *testing.T) {
	c := of(t, box(-2, -2, 2, 2))
	c.Flat([][]api.Dot{{dot(-128, -128), dot(128, -128), dot(128, 128), dot(-128, 128)}})
	for _, far := range []int{math.MinInt, math.MaxInt, 1 << 32, -1 << 32, 1<<32 + 1, 3, -3, 1 << 14} {
		for _, at := range [][2]int{{far, 0}, {-2, far}, {far, far}, {2, far}} {
			if cover, area := c.At(at[0], at[1]); cover != 0 || area != 0 {
				t.Error(at, cover, area)
			}
		}
	}
	if cover, area := c.At(2, 1); cover != 64 || area != 0 {
		t.Error(cover, area)
	}
	if cover, area := c.At(2, 2); cover != 0 || area != 0 {
		t.Error(cover, area)
	}
}

// TestAtOnce: what is asked does not hang on who else asks.
func TestAtOnce(t *testing.T) {
	b := box(-3, -3, 9, 9)
	l := drawnFlat(rand.New(rand.NewSource(7)), b)
	c, p := of(t, b), plain{}
	c.Flat(l)
	p.flat(l)
	cells, rows := c.All(), cover.Rows(dot(7, 500), dot(-9, -300))
	want, _ := plainRows(dot(7, 500), dot(-9, -300))
	var wait sync.WaitGroup
	for range 8 {
		wait.Go(func() {
			other := of(t, b)
			other.Flat(l)
			var have []piece
			for row, ends := range rows {
				have = append(have, piece{row, ends})
			}
			if !slices.Equal(slices.Collect(cells), p.cells()) || !slices.Equal(slices.Collect(other.All()), p.cells()) || !slices.Equal(have, want) {
				t.Error("other answers")
			}
		})
	}
	wait.Wait()
}
