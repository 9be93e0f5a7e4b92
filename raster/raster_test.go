package raster_test

import (
	"bytes"
	"math"
	"math/big"
	"math/rand"
	"slices"
	"sync"
	"testing"

	"serif/api"
	"serif/raster"
)

const (
	most = 1 << 20
	far  = 1 << 31
)

func dot(x, y int) api.Dot { return api.Dot{X: x, Y: y} }

func box(x0, y0, x1, y1 int) api.Box { return api.Box{X0: x0, Y0: y0, X1: x1, Y1: y1} }

// rectangle is a ring round places from (x0, y0) to (x1, y1).
func rectangle(x0, y0, x1, y1 int) []api.Dot {
	return []api.Dot{dot(x0, y0), dot(x1, y0), dot(x1, y1), dot(x0, y1)}
}

func flat(rings ...[]api.Dot) [][]api.Dot { return rings }

func copyOf(l [][]api.Dot) [][]api.Dot {
	var all [][]api.Dot
	for _, x := range l {
		all = append(all, slices.Clone(x))
	}
	return all
}

func equal(a, b api.Mask) bool { return a.Box == b.Box && bytes.Equal(a.Rows, b.Rows) }

// floor is that of a 64th.
func floor(x int) int { return int(math.Floor(float64(x) / 64)) }

// nearest is floor(a b / c + 1/2), of numbers of any size.
func nearest(a, b, c int) int {
	two, d := big.NewInt(2), big.NewInt(int64(c))
	n := new(big.Int).Mul(big.NewInt(int64(a)), big.NewInt(int64(b)))
	n.Add(n.Mul(n, two), d)
	return int(n.Div(n, d.Mul(d, two)).Int64()) // Div rounds down, d being above 0
}

// between is the multiples of 64 between two numbers, from the first one on.
func between(a, b int) []int {
	var l []int
	for x := 64 * floor(min(a, b)); x < max(a, b); x += 64 {
		if x > min(a, b) {
			l = append(l, x)
		}
	}
	if a > b {
		slices.Reverse(l)
	}
	return l
}

// left is what lines left: of each pixel its Cover, and its Area.
type left map[[2]int][2]int

// line leaves what a line leaves, as chapter 22 writes it down.
func (p left) line(a, d api.Dot) {
	sign := 1
	if a.Y > d.Y {
		a, d, sign = d, a, -1
	}
	if a.Y == d.Y {
		return
	}
	at := a
	for _, y := range between(a.Y, d.Y) {
		next := dot(a.X+nearest(d.X-a.X, y-a.Y, d.Y-a.Y), y)
		p.piece(sign, at, next)
		at = next
	}
	p.piece(sign, at, d)
}

func (p left) piece(sign int, a, b api.Dot) {
	at := a
	for _, x := range between(a.X, b.X) {
		next := dot(x, a.Y+nearest(b.Y-a.Y, max(x-a.X, a.X-x), max(b.X-a.X, a.X-b.X)))
		p.bit(sign, floor(a.Y), at, next)
		at = next
	}
	p.bit(sign, floor(a.Y), at, b)
}

func (p left) bit(sign, row int, u, w api.Dot) {
	c := floor(min(u.X, w.X))
	was, down := p[[2]int{c, row}], sign*(w.Y-u.Y)
	p[[2]int{c, row}] = [2]int{was[0] + down, was[1] + down*(u.X-64*c+w.X-64*c)}
}

// plainBox is the pixels from the least to the greatest numbers, none if these are no box.
func plainBox(l [][]api.Dot) api.Box {
	var xs, ys []int
	for _, ring := range l {
		for _, d := range ring {
			xs, ys = append(xs, d.X), append(ys, d.Y)
		}
	}
	if len(xs) == 0 {
		return api.Box{}
	}
	b := box(floor(slices.Min(xs)), floor(slices.Min(ys)), -floor(-slices.Max(xs)), -floor(-slices.Max(ys)))
	if b.X0 >= b.X1 || b.Y0 >= b.Y1 {
		return api.Box{}
	}
	return b
}

// plainByte is the byte of C and A of a pixel.
func plainByte(c, a int) byte {
	v := math.Min(8192, math.Abs(float64(128*c-a)))
	return byte(math.Floor((255*v + 4096) / 8192))
}

// plainMask is the mask of closed lines as the chapter writes it down.
func plainMask(l [][]api.Dot) api.Mask {
	m, p := api.Mask{Box: plainBox(l)}, left{}
	for _, ring := range l {
		for i, d := range ring {
			p.line(d, ring[(i+1)%len(ring)])
		}
	}
	for y := m.Box.Y0; y < m.Box.Y1; y++ {
		c := 0
		for x := m.Box.X0; x < m.Box.X1; x++ {
			here := p[[2]int{x, y}]
			c += here[0]
			m.Rows = append(m.Rows, plainByte(c, here[1]))
		}
	}
	return m
}

// fill is the mask of closed lines, which must be that of the plain reckoning.
func fill(t *testing.T, l [][]api.Dot) api.Mask {
	t.Helper()
	were := copyOf(l)
	m, e := raster.Fill(l)
	if e != api.OK {
		t.Fatal(l, e)
	}
	if want := plainMask(copyOf(l)); !equal(m, want) {
		t.Fatal(l, "have", m, "should be", want)
	}
	if !slices.EqualFunc(l, were, func(a, b []api.Dot) bool { return slices.Equal(a, b) }) {
		t.Fatal("changes what is handed in")
	}
	if raster.Check(m) != api.OK {
		t.Fatal(l, "has a mask that may not be")
	}
	return m
}

// drawnDot is a dot within a box, often at a pixel's edge, or at the box's.
func drawnDot(draw *rand.Rand, b api.Box) api.Dot {
	number := func(from, to int) int {
		switch draw.Intn(6) {
		case 0:
			return 64 * (from + draw.Intn(to-from+1))
		case 1:
			return 64 * []int{from, to}[draw.Intn(2)]
		}
		return 64*from + draw.Intn(64*(to-from)+1)
	}
	return dot(number(b.X0, b.X1), number(b.Y0, b.Y1))
}

// drawnBox is a box of a few pixels, or of one row or column, or far away.
func drawnBox(draw *rand.Rand) api.Box {
	x, y := draw.Intn(200)-100, draw.Intn(200)-100
	width, height := 1+draw.Intn(9), 1+draw.Intn(9)
	switch draw.Intn(8) {
	case 0:
		width = 100
	case 1:
		height = 100
	case 2:
		x, y = 16384-width, -16384
	case 3:
		x, y = -16384, 16384-height
	}
	return box(x, y, x+width, y+height)
}

func drawnFlat(draw *rand.Rand, b api.Box) [][]api.Dot {
	var l [][]api.Dot
	for range draw.Intn(4) {
		var ring []api.Dot
		for range draw.Intn(8) {
			ring = append(ring, drawnDot(draw, b))
		}
		l = append(l, ring)
	}
	return l
}

func TestExample(t *testing.T) {
	m := fill(t, flat(rectangle(0, 0, 96, 64)))
	if !equal(m, api.Mask{Box: box(0, 0, 2, 1), Rows: []byte{255, 128}}) {
		t.Error(m)
	}
}

// TestMasksInFull tells masks pixel by pixel.
func TestMasksInFull(t *testing.T) {
	for _, x := range []struct {
		l    [][]api.Dot
		b    api.Box
		rows []byte
	}{
		{flat(rectangle(0, 0, 64, 64)), box(0, 0, 1, 1), []byte{255}},
		{flat(rectangle(0, 0, 32, 64)), box(0, 0, 1, 1), []byte{128}},
		{flat(rectangle(32, 0, 64, 64)), box(0, 0, 1, 1), []byte{128}},
		{flat(rectangle(-64, -128, 64, 0)), box(-1, -2, 1, 0), []byte{255, 255, 255, 255}},
		{flat(rectangle(-1, -1, 1, 1)), box(-1, -1, 1, 1), []byte{0, 0, 0, 0}},
		{flat(rectangle(-2, -4, 2, 4)), box(-1, -1, 1, 1), []byte{0, 0, 0, 0}},
		{flat(rectangle(-3, -3, 3, 3)), box(-1, -1, 1, 1), []byte{1, 1, 1, 1}},
		// 8 places are a little less than half of a byte's step, 9 are more
		{flat(rectangle(0, 0, 8, 1)), box(0, 0, 1, 1), []byte{0}},
		{flat(rectangle(0, 0, 9, 1)), box(0, 0, 1, 1), []byte{1}},
		{flat(rectangle(0, 0, 64, 63)), box(0, 0, 1, 1), []byte{251}},
		{flat(rectangle(1, 1, 64, 64)), box(0, 0, 1, 1), []byte{247}},
		// half of a pixel, cut from corner to corner
		{flat([]api.Dot{dot(0, 0), dot(64, 64), dot(0, 64)}), box(0, 0, 1, 1), []byte{128}},
		{flat([]api.Dot{dot(0, 0), dot(128, 128), dot(0, 128)}), box(0, 0, 2, 2), []byte{128, 0, 255, 128}},
		// what is covered twice is covered whole, and the other way round as well
		{flat(rectangle(0, 0, 64, 64), rectangle(0, 0, 64, 64)), box(0, 0, 1, 1), []byte{255}},
		{flat(rectangle(0, 64, 64, 0), rectangle(0, 64, 64, 0)), box(0, 0, 1, 1), []byte{255}},
		{flat(rectangle(0, 0, 32, 64), rectangle(0, 0, 32, 64)), box(0, 0, 1, 1), []byte{255}},
		{flat(rectangle(0, 0, 48, 64), rectangle(0, 0, 32, 64)), box(0, 0, 1, 1), []byte{255}},
		{flat(rectangle(0, 0, 16, 64), rectangle(48, 0, 64, 64)), box(0, 0, 1, 1), []byte{128}},
		// one round and one back leave a hole
		{flat(rectangle(0, 0, 192, 64), rectangle(64, 64, 128, 0)), box(0, 0, 3, 1), []byte{255, 0, 255}},
		{flat(rectangle(0, 0, 64, 64), rectangle(16, 64, 48, 0)), box(0, 0, 1, 1), []byte{128}},
		{flat(rectangle(0, 0, 64, 64), rectangle(0, 64, 64, 0)), box(0, 0, 1, 1), []byte{0}},
		// apart from one another: what is between is in the box, and is not covered
		{flat(rectangle(0, 0, 64, 64), rectangle(128, 128, 192, 192)), box(0, 0, 3, 3), []byte{255, 0, 0, 0, 0, 0, 0, 0, 255}},
		{flat(nil, rectangle(0, -64, 64, 0), nil, rectangle(0, 192, 64, 256), []api.Dot{}), box(0, -1, 1, 4), []byte{255, 0, 0, 0, 255}},
	} {
		m := fill(t, x.l)
		if !equal(m, api.Mask{Box: x.b, Rows: x.rows}) {
			t.Error(x.l, m, x.b, x.rows)
		}
	}
}

// TestNothing: where there is no box, there are no bytes; where there is one, nothing of it need be covered.
func TestNothing(t *testing.T) {
	for _, l := range [][][]api.Dot{
		nil, {}, {nil}, {{}, nil, {}},
		{{dot(0, 0)}}, {{dot(64, 64)}}, {{dot(64, 30)}}, {{dot(30, -64)}}, {{dot(-128, 0), dot(-128, 0)}},
		{{dot(64, -500), dot(64, 700)}}, {{dot(-7000, 128), dot(90, 128), dot(3, 128)}}, {{dot(most, -most), dot(most, most)}}, {{dot(most, -most), dot(-most, -most)}},
	} {
		m, e := raster.Fill(l)
		if e != api.OK || m.Box != (api.Box{}) || len(m.Rows) != 0 {
			t.Error(l, m, e)
		}
	}
	for _, l := range [][][]api.Dot{
		{{dot(1, 1)}}, {{dot(-1, 63)}}, {{dot(5, 5), dot(5, 5)}}, {{dot(1, 1), dot(300, 200)}}, {{dot(70, 0), dot(70, 200)}}, {{dot(0, 70), dot(200, 70), dot(100, 70)}},
		{{dot(7, 7), dot(90, 100), dot(150, 3), dot(90, 100)}},
	} {
		m := fill(t, l)
		if m.Box == (api.Box{}) || slices.Max(m.Rows) != 0 {
			t.Error(l, m)
		}
	}
}

// round is a ring the other way round, begun at another dot.
func round(ring []api.Dot, turned bool, first int) []api.Dot {
	r := append(slices.Clone(ring[first:]), ring[:first]...)
	if turned {
		slices.Reverse(r)
	}
	return r
}

// TestRectangles: each pixel is covered by just as much as the rectangle has of it.
func TestRectangles(t *testing.T) {
	within := func(from, to, pixel int) int { return max(0, min(to, 64*pixel+64)-max(from, 64*pixel)) }
	places := []int{-70, -64, -1, 0, 9, 31, 32, 63, 64, 100, 128, 191}
	for i, x0 := range places {
		for _, x1 := range places[i+1:] {
			for j, y0 := range places {
				for _, y1 := range places[j+1:] {
					m, e := raster.Fill(flat(round(rectangle(x0, y0, x1, y1), (i+j)%2 == 0, (x1&3+i+j)%4)))
					if e != api.OK || m.Box != box(floor(x0), floor(y0), -floor(-x1), -floor(-y1)) || raster.Check(m) != api.OK {
						t.Fatal(x0, y0, x1, y1, m, e)
					}
					for y := -3; y < 5; y++ {
						for x := -3; x < 5; x++ {
							want := (255*2*within(x0, x1, x)*within(y0, y1, y) + 4096) / 8192
							if raster.At(m, x, y) != want {
								t.Fatal(x0, y0, x1, y1, x, y, raster.At(m, x, y), want)
							}
						}
					}
				}
			}
		}
	}
}

// TestDrawn: closed lines of all kinds, held against a plain reckoning; the other way round, begun elsewhere, moved by whole pixels.
func TestDrawn(t *testing.T) {
	draw := rand.New(rand.NewSource(23))
	covered := 0
	for range 1500 {
		l := drawnFlat(draw, drawnBox(draw))
		m := fill(t, l)
		turned := draw.Intn(2) == 0
		var other [][]api.Dot
		for _, ring := range l {
			if len(ring) > 0 {
				ring = round(ring, turned, draw.Intn(len(ring)))
			}
			other = append(other, ring)
		}
		draw.Shuffle(len(other), func(i, j int) { other[i], other[j] = other[j], other[i] })
		if o := fill(t, other); !equal(m, o) {
			t.Fatal(l, m, other, o)
		}
		if len(m.Rows) == 0 {
			continue
		}
		covered += int(slices.Max(m.Rows))
		dx := draw.Intn(16384-m.Box.X1+m.Box.X0+16384+1) - 16384 - m.Box.X0
		dy := draw.Intn(16384-m.Box.Y1+m.Box.Y0+16384+1) - 16384 - m.Box.Y0
		for _, ring := range other {
			for i := range ring {
				ring[i].X, ring[i].Y = ring[i].X+64*dx, ring[i].Y+64*dy
			}
		}
		moved, e := raster.Fill(other)
		if e != api.OK || !equal(moved, api.Mask{Box: box(m.Box.X0+dx, m.Box.Y0+dy, m.Box.X1+dx, m.Box.Y1+dy), Rows: m.Rows}) {
			t.Fatal(l, dx, dy, m, moved, e)
		}
	}
	if covered < 100000 {
		t.Error("too little is covered:", covered)
	}
}

// TestAllTriangles of a grid on and beside pixels' edges.
func TestAllTriangles(t *testing.T) {
	var dots []api.Dot
	for _, x := range []int{-64, -1, 30, 64, 127} {
		for _, y := range []int{-65, 0, 33, 64} {
			dots = append(dots, dot(x, y))
		}
	}
	for i := range dots {
		for j := range dots {
			for k := range j {
				fill(t, flat([]api.Dot{dots[i], dots[j], dots[k]}))
			}
		}
	}
}

// TestManyLines: as many dots as may be, in a few pixels; and lines that go on in hundreds of rows while others begin.
func TestManyLines(t *testing.T) {
	draw := rand.New(rand.NewSource(230))
	ring := func(n int, b api.Box) []api.Dot {
		var l []api.Dot
		for range n {
			l = append(l, drawnDot(draw, b))
		}
		return l
	}
	fill(t, flat(ring(1<<16, box(-1, -1, 1, 1))))
	fill(t, flat(ring(1<<15, box(-1, 0, 1, 1)), ring(1<<15, box(4, 0, 5, 9))))
	fill(t, flat(ring(500, box(0, 0, 9, 300)), ring(100, box(0, -50, 30, 100))))
	fill(t, flat(ring(300, box(0, 0, 400, 7)), slices.Repeat(rectangle(3, 3, 70, 70), 1000)))
	// Sums that need more than 16 bits in a pixel, and come back to 0 behind it.
	m := fill(t, flat(slices.Repeat(rectangle(10, 0, 74, 64), 1<<14)))
	if !bytes.Equal(m.Rows, []byte{255, 255}) {
		t.Error(m)
	}
}

// TestFarLines: the longest rows, the highest columns, the most pixels.
func TestFarLines(t *testing.T) {
	for _, b := range []api.Box{box(-16384, -64, 16384, 64), box(-64, -16384, 64, 16384), box(-1024, -1024, 1024, 1024), box(14336, -16384, 16384, -14336), box(-16384, 16383, 16384, 16384)} {
		x0, y0, x1, y1 := 64*b.X0, 64*b.Y0, 64*b.X1, 64*b.Y1
		m := fill(t, flat([]api.Dot{dot(x0, y0), dot(x1, y0+5), dot(x1-9, y1)}, []api.Dot{dot(x1-7, y1-1), dot(x0+1, y0+3), dot(x0, y1-2)}))
		if m.Box != b {
			t.Error(b, m.Box)
		}
	}
}

// TestRefused: each error at its bound, in order.
func TestRefused(t *testing.T) {
	row := func(n int) []api.Dot { return slices.Repeat([]api.Dot{dot(1, 1), dot(5, 60)}, n/2) }
	for name, x := range map[string]struct {
		l [][]api.Dot
		e api.Errno
	}{
		"most dots":       {flat(row(65534), row(2)), api.OK},
		"more":            {flat(row(65536), []api.Dot{dot(1, 1)}), api.ErrLong},
		"more, over":      {flat([]api.Dot{dot(most+1, 0)}, row(65536)), api.ErrLong},
		"more, too large": {flat(row(65536), []api.Dot{dot(-most, -most), dot(most, most)}), api.ErrLong},
		"furthest":        {flat(rectangle(-most, most-64, most, most)), api.OK},
		"over X":          {flat(rectangle(0, 0, most+1, 64)), api.ErrOver},
		"over Y":          {flat(rectangle(0, 0, 64, most+1)), api.ErrOver},
		"below X":         {flat(rectangle(-most-1, 0, 0, 64)), api.ErrOver},
		"below Y":         {flat(rectangle(0, -most-1, 64, 0)), api.ErrOver},
		"far away":        {flat([]api.Dot{dot(math.MinInt, 0)}), api.ErrOver},
		"farther":         {flat([]api.Dot{dot(0, math.MaxInt), dot(math.MinInt, math.MinInt)}), api.ErrOver},
		"over, too large": {flat(rectangle(-most, -most, most, most+1)), api.ErrOver},
		"a dot over":      {flat(nil, rectangle(0, 0, 64, 64), []api.Dot{dot(64, most+1)}), api.ErrOver},
		"too large":       {flat(rectangle(-most, -most, most, most)), api.ErrMask},
		"square":          {flat(rectangle(0, 0, 64*2048, 64*2048)), api.OK},
		"too wide":        {flat(rectangle(0, 0, 64*2048+1, 64*2048)), api.ErrMask},
		"too high":        {flat(rectangle(0, -1, 64*2048, 64*2048)), api.ErrMask},
		"widest":          {flat(rectangle(-most, 0, most, 64*128)), api.OK},
		"widest, higher":  {flat(rectangle(-most, 0, most, 64*128+1)), api.ErrMask},
		"highest":         {flat(rectangle(-64*128, -most, 0, most)), api.OK},
		"highest, wider":  {flat(rectangle(-64*128-1, -most, 0, most)), api.ErrMask},
		"two dots":        {flat([]api.Dot{dot(-most, -most)}, []api.Dot{dot(most, most)}), api.ErrMask},
		"2049 by 2047":    {flat([]api.Dot{dot(0, 0)}, []api.Dot{dot(64*2049, 64*2047)}), api.OK},
	} {
		m, e := raster.Fill(x.l)
		if e != x.e || e != api.OK && (m.Box != (api.Box{}) || len(m.Rows) != 0) || raster.Check(m) != api.OK {
			t.Error(name, m.Box, len(m.Rows), e, x.e)
		}
		if e == api.OK && m.Box != plainBox(x.l) {
			t.Error(name, m.Box)
		}
	}
}

// wrongMasks is some of each kind that may not be.
func wrongMasks() []api.Mask {
	var l []api.Mask
	add := func(b api.Box, n int) { l = append(l, api.Mask{Box: b, Rows: make([]byte, n)}) }
	for _, n := range []int{0, 1, 3, 5, 8} {
		add(box(0, 0, 2, 2), n)
	}
	add(box(0, 0, 0, 0), 1)
	for _, b := range []api.Box{box(1, 1, 1, 1), box(0, 0, 1, 0), box(0, 0, 0, 1), box(1, 0, 0, 1), box(0, 1, 1, 0), box(-1, -1, -1, -1), box(1, 1, 0, 0), box(0, 0, -1, -1), box(5, 0, 5, 9)} {
		add(b, 0)
		add(b, 1)
	}
	for _, b := range []api.Box{box(16384, 0, 16385, 1), box(0, 16384, 1, 16385), box(-16385, 0, -16384, 1), box(0, -16385, 1, -16384), box(far, far, far+1, far+1), box(math.MaxInt-1, 0, math.MaxInt, 1), box(0, math.MinInt, 1, math.MinInt+1), box(1<<32, 0, 1<<32+1, 1)} {
		add(b, 1)
	}
	add(box(-16384, 0, 16385, 1), 32769)
	add(box(0, 0, 2049, 2048), 2049*2048)
	add(box(-16384, 0, 16384, 129), 32768*129)
	for _, b := range []api.Box{box(-16384, -16384, 16384, 16384), box(math.MinInt, math.MinInt, math.MaxInt, math.MaxInt), box(-far, -far, far, far), box(math.MinInt, 0, math.MaxInt, 1), box(0, 0, 1<<32, 1<<32)} {
		add(b, 0)
		add(b, 1)
	}
	return l
}

// masks is some that may be, with drawn bytes.
func masks() []api.Mask {
	draw := rand.New(rand.NewSource(24))
	l := []api.Mask{{}, {Rows: []byte{}}}
	for _, b := range []api.Box{box(0, 0, 1, 1), box(0, 0, 2, 3), box(-5, -9, 3, 2), box(-16384, -16384, -16380, -16383), box(16380, 16383, 16384, 16384), box(-16384, 7, 16384, 8), box(7, -16384, 8, 16384), box(100, -100, 117, -81)} {
		m := api.Mask{Box: b, Rows: make([]byte, (b.X1-b.X0)*(b.Y1-b.Y0))}
		draw.Read(m.Rows)
		l = append(l, m)
	}
	return l
}

func TestCheck(t *testing.T) {
	for _, m := range append(masks(), api.Mask{Box: box(0, 0, 2048, 2048), Rows: make([]byte, 1<<22)}, api.Mask{Box: box(-16384, -64, 16384, 64), Rows: make([]byte, 1<<22)}) {
		if e := raster.Check(m); e != api.OK {
			t.Error(m.Box, e)
		}
		// The room behind the bytes does not count.
		m.Rows = append(slices.Clone(m.Rows), 1)[:len(m.Rows)]
		if e := raster.Check(m); e != api.OK {
			t.Error(m.Box, e)
		}
		m.Rows = m.Rows[:len(m.Rows)+1]
		if e := raster.Check(m); e != api.ErrMask {
			t.Error(m.Box, e)
		}
	}
	for _, m := range wrongMasks() {
		if e := raster.Check(m); e != api.ErrMask {
			t.Error(m.Box, len(m.Rows), e)
		}
	}
}

func TestAt(t *testing.T) {
	for _, m := range masks() {
		b, i := m.Box, 0
		for y := b.Y0; y < b.Y1; y++ {
			for x := b.X0; x < b.X1; x++ {
				if c := raster.At(m, x, y); c != int(m.Rows[i]) {
					t.Fatal(b, x, y, c, m.Rows[i])
				}
				i++
			}
		}
		clear(m.Rows)
		for i := range m.Rows {
			m.Rows[i] = 255
		}
		xs := []int{b.X0, b.X0 - 1, b.X1, b.X1 + 1, 0, math.MinInt, math.MaxInt, far, -far, b.X0 + 1<<32, b.X0 - 1<<32}
		ys := []int{b.Y0, b.Y0 - 1, b.Y1, b.Y1 + 1, 0, math.MinInt, math.MaxInt, far, -far, b.Y0 + 1<<32, b.Y0 - 1<<32}
		for _, x := range xs {
			for _, y := range ys {
				want := 0
				if b.X0 <= x && x < b.X1 && b.Y0 <= y && y < b.Y1 {
					want = 255
				}
				if c := raster.At(m, x, y); c != want {
					t.Error(b, x, y, c, want)
				}
			}
		}
	}
	for _, m := range wrongMasks() {
		for i := range m.Rows {
			m.Rows[i] = 255
		}
		for _, at := range [][2]int{{0, 0}, {m.Box.X0, m.Box.Y0}, {m.Box.X1 - 1, m.Box.Y1 - 1}, {1, 1}} {
			if c := raster.At(m, at[0], at[1]); c != 0 {
				t.Error(m.Box, len(m.Rows), at, c)
			}
		}
	}
}

// plainCrop is what is in both boxes, pixel by pixel.
func plainCrop(m api.Mask, b api.Box) api.Mask {
	both := box(max(m.Box.X0, b.X0), max(m.Box.Y0, b.Y0), min(m.Box.X1, b.X1), min(m.Box.Y1, b.Y1))
	if both.X0 >= both.X1 || both.Y0 >= both.Y1 {
		return api.Mask{}
	}
	part := api.Mask{Box: both}
	i := 0
	for y := m.Box.Y0; y < m.Box.Y1; y++ {
		for x := m.Box.X0; x < m.Box.X1; x++ {
			if both.X0 <= x && x < both.X1 && both.Y0 <= y && y < both.Y1 {
				part.Rows = append(part.Rows, m.Rows[i])
			}
			i++
		}
	}
	return part
}

func TestCrop(t *testing.T) {
	draw := rand.New(rand.NewSource(25))
	for _, m := range masks() {
		b := m.Box
		boxes := []api.Box{{}, b, box(-far, -far, far, far), box(far, far, -far, -far), box(b.X0, b.Y0, b.X0+1, b.Y0+1), box(b.X1-1, b.Y1-1, b.X1, b.Y1), box(b.X1-1, -far, far, far), box(-far, b.Y1-1, far, far),
			box(b.X1, b.Y0, b.X1+5, b.Y1), box(b.X0-5, b.Y0, b.X0, b.Y1), box(b.X0, b.Y1, b.X1, b.Y1+1), box(b.X0, b.Y0-1, b.X1, b.Y0), box(b.X1, b.Y1, b.X0, b.Y0), box(b.X0+1, b.Y0+1, b.X0+1, b.Y0+1), box(b.X0-1, b.Y0-1, b.X1+1, b.Y1+1), box(-far, -far, 0, 0), box(0, 0, far, far)}
		for range 60 {
			number := func(from, to int) int { return from - 2 + draw.Intn(to-from+5) }
			boxes = append(boxes, box(number(b.X0, b.X1), number(b.Y0, b.Y1), number(b.X0, b.X1), number(b.Y0, b.Y1)))
		}
		were := slices.Clone(m.Rows)
		for _, c := range boxes {
			part, e := raster.Crop(m, c)
			if e != api.OK || !equal(part, plainCrop(m, c)) || raster.Check(part) != api.OK {
				t.Fatal(b, c, part, e)
			}
			// What is answered is new, its spare room too.
			part.Rows = part.Rows[:cap(part.Rows)]
			for i := range part.Rows {
				part.Rows[i]++
			}
			if !bytes.Equal(were, m.Rows) {
				t.Fatal(b, c, "shares what was handed in")
			}
		}
	}
}

func TestCropRefused(t *testing.T) {
	var wrong []api.Box
	for _, x := range []int{far + 1, -far - 1, math.MinInt, math.MaxInt, 1 << 32, -1 << 32, 1 << 40} {
		wrong = append(wrong, box(x, 0, 1, 1), box(0, x, 1, 1), box(0, 0, x, 1), box(0, 0, 1, x), box(x, x, x, x))
	}
	for _, b := range wrong {
		for _, m := range masks() {
			if part, e := raster.Crop(m, b); e != api.ErrOver || part.Box != (api.Box{}) || len(part.Rows) != 0 {
				t.Error(m.Box, b, part, e)
			}
		}
	}
	for i, m := range wrongMasks() {
		for _, b := range []api.Box{{}, m.Box, box(0, 0, 1, 1), box(-far, -far, far, far), wrong[i%len(wrong)]} {
			if part, e := raster.Crop(m, b); e != api.ErrMask || part.Box != (api.Box{}) || len(part.Rows) != 0 {
				t.Error(m.Box, b, part, e)
			}
		}
	}
}

func TestTotal(t *testing.T) {
	for _, m := range masks() {
		want := 0
		for _, x := range m.Rows {
			want += int(x)
		}
		if n, e := raster.Total(m); n != want || e != api.OK {
			t.Error(m.Box, n, want, e)
		}
	}
	full := api.Mask{Box: box(-1024, -1024, 1024, 1024), Rows: bytes.Repeat([]byte{255}, 1<<22)}
	if n, e := raster.Total(full); n != 255<<22 || e != api.OK {
		t.Error(n, e)
	}
	for _, m := range wrongMasks() {
		for i := range m.Rows {
			m.Rows[i] = 7
		}
		if n, e := raster.Total(m); n != 0 || e != api.ErrMask {
			t.Error(m.Box, n, e)
		}
	}
}

// TestMasksAreTheirOwn: what is done to a mask is not seen in one that is answered later.
func TestMasksAreTheirOwn(t *testing.T) {
	l := flat(rectangle(0, 0, 200, 200), rectangle(20, 20, 50, 90))
	want := fill(t, l)
	want.Rows = slices.Clone(want.Rows)
	for range 3 {
		m, _ := raster.Fill(l)
		if !equal(m, want) {
			t.Error(m, want)
		}
		m.Rows = m.Rows[:cap(m.Rows)]
		for i := range m.Rows {
			m.Rows[i] ^= 255
		}
	}
	// The room behind the dots is neither read nor written.
	ring := append(rectangle(0, 0, 64, 64), dot(7, 7))
	room := ring[:4:5]
	if m, e := raster.Fill(flat(room)); e != api.OK || !bytes.Equal(m.Rows, []byte{255}) || ring[4] != dot(7, 7) {
		t.Error(m, e, ring)
	}
}

// TestAtOnce: what is answered does not hang on who else asks.
func TestAtOnce(t *testing.T) {
	draw := rand.New(rand.NewSource(26))
	l := flat(nil)
	for len(l) < 5 {
		l = append(l, drawnFlat(draw, box(-3, -3, 9, 9))...)
	}
	want := fill(t, l)
	var wait sync.WaitGroup
	for range 8 {
		wait.Go(func() {
			m, e := raster.Fill(l)
			part, _ := raster.Crop(want, box(0, 0, 5, 5))
			if e != api.OK || !equal(m, want) || !equal(part, plainCrop(want, box(0, 0, 5, 5))) {
				t.Error("another mask")
			}
		})
	}
	wait.Wait()
}
