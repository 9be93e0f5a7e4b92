package exact_test

import (
	"math"
	"math/big"
	"math/rand"
	"slices"
	"sync"
	"testing"

	"serif/api"
	"serif/exact"
	"serif/raster"
)

const (
	most  = 1 << 20
	touch = 1 << 21
)

func dot(x, y int) api.Dot { return api.Dot{X: x, Y: y} }

func box(x0, y0, x1, y1 int) api.Box { return api.Box{X0: x0, Y0: y0, X1: x1, Y1: y1} }

// rectangle is a ring round places from (x0, y0) to (x1, y1).
func rectangle(x0, y0, x1, y1 int) []api.Dot {
	return []api.Dot{dot(x0, y0), dot(x1, y0), dot(x1, y1), dot(x0, y1)}
}

func flat(rings ...[]api.Dot) [][]api.Dot { return rings }

func copyOf(l [][]api.Dot) [][]api.Dot {
	var all [][]api.Dot
	for _, x := range l {
		all = append(all, slices.Clone(x))
	}
	return all
}

func same(a, b [][]api.Dot) bool {
	return slices.EqualFunc(a, b, func(c, d []api.Dot) bool { return slices.Equal(c, d) })
}

// linesOf is all lines of closed lines.
func linesOf(l [][]api.Dot) [][2]api.Dot {
	var all [][2]api.Dot
	for _, ring := range l {
		for i, d := range ring {
			all = append(all, [2]api.Dot{d, ring[(i+1)%len(ring)]})
		}
	}
	return all
}

// crossing is the X of a line that is not level at a Y.
func crossing(a, d api.Dot, y int) *big.Rat {
	x := big.NewRat(int64(d.X-a.X)*int64(y-a.Y), int64(d.Y-a.Y))
	return x.Add(x, big.NewRat(int64(a.X), 1))
}

// plainTouches cuts off of a line what is not within the box, side by side, and asks whether something stays: a line's places are those from 0 to 1 of it.
func plainTouches(a, d api.Dot, b api.Box) bool {
	least, greatest := big.NewRat(0, 1), big.NewRat(1, 1)
	// step t must be at least gap for each t that stays.
	keep := func(step, gap int) bool {
		if step == 0 {
			return gap <= 0
		}
		t := big.NewRat(int64(gap), int64(step))
		if step > 0 && t.Cmp(least) > 0 {
			least = t
		}
		if step < 0 && t.Cmp(greatest) < 0 {
			greatest = t
		}
		return least.Cmp(greatest) <= 0
	}
	return keep(d.X-a.X, b.X0-a.X) && keep(a.X-d.X, a.X-b.X1) && keep(d.Y-a.Y, b.Y0-a.Y) && keep(a.Y-d.Y, a.Y-b.Y1)
}

// plainOn tells whether a place is on a line.
func plainOn(l [][]api.Dot, x, y int) bool {
	return slices.ContainsFunc(linesOf(l), func(s [2]api.Dot) bool { return plainTouches(s[0], s[1], box(x, y, x, y)) })
}

// plainWinding is the winding number as the chapter writes it down.
func plainWinding(l [][]api.Dot, x, y int) int {
	n := 0
	for _, s := range linesOf(l) {
		a, d := s[0], s[1]
		down, up := a.Y <= y && d.Y > y, a.Y > y && d.Y <= y
		if (down || up) && crossing(a, d, y).Cmp(big.NewRat(int64(x), 1)) > 0 {
			if down {
				n++
			} else {
				n--
			}
		}
	}
	return n
}

// plainTally is a pixel's tally, square by square.
func plainTally(l [][]api.Dot, x, y int) api.Tally {
	touched := func(b api.Box) int {
		n := 0
		for _, s := range linesOf(l) {
			if plainTouches(s[0], s[1], b) {
				n++
			}
		}
		return n
	}
	t := api.Tally{Lines: touched(box(64*x-4, 64*y-4, 64*x+68, 64*y+68))}
	first := true
	for i := range 16 {
		for j := range 16 {
			u, v := 64*x+4*i, 64*y+4*j
			if touched(box(u, v, u+4, v+4)) > 0 {
				t.Touched++
				continue
			}
			n := plainWinding(l, u+2, v+2)
			if n != 0 {
				t.Inside++
			}
			if first || n > t.Most {
				t.Most = n
			}
			if first || n < t.Least {
				t.Least = n
			}
			first = false
		}
	}
	return t
}

// tally is a pixel's tally, which must be that of the plain reckoning.
func tally(t *testing.T, l [][]api.Dot, x, y int) api.Tally {
	t.Helper()
	were := copyOf(l)
	have, e := exact.Tally(l, x, y)
	if want := plainTally(were, x, y); e != api.OK || have != want {
		t.Fatal(l, x, y, "have", have, e, "should be", want)
	}
	if !same(l, were) {
		t.Fatal("changes what is handed in")
	}
	return have
}

func TestExample(t *testing.T) {
	if n := tally(t, flat(rectangle(0, 0, 64, 64)), 0, 0); n != (api.Tally{Touched: 60, Inside: 196, Most: 1, Least: 1, Lines: 4}) {
		t.Error(n)
	}
}

// turned is a ring the other way round.
func turned(ring []api.Dot) []api.Dot {
	r := slices.Clone(ring)
	slices.Reverse(r)
	return r
}

func TestWinding(t *testing.T) {
	square := rectangle(0, 0, 10, 10)
	star := []api.Dot{dot(0, -100), dot(59, 81), dot(-95, -31), dot(95, -31), dot(-59, 81)}
	for _, x := range []struct {
		l    [][]api.Dot
		x, y int
		want int
		e    api.Errno
	}{
		{nil, 0, 0, 0, api.OK},
		{flat(nil, nil), 5, 5, 0, api.OK},
		{flat(square), 5, 5, 1, api.OK},
		{flat(turned(square)), 5, 5, -1, api.OK},
		{flat(square, square), 5, 5, 2, api.OK},
		{flat(square, turned(square)), 5, 5, 0, api.OK},
		{flat(square, rectangle(3, 3, 7, 7)), 5, 5, 2, api.OK},
		{flat(square, turned(rectangle(3, 3, 7, 7))), 5, 5, 0, api.OK},
		{flat(square), 1, 1, 1, api.OK},
		{flat(square), 9, 9, 1, api.OK},
		{flat(square), -1, 5, 0, api.OK},
		{flat(square), 11, 5, 0, api.OK},
		{flat(square), 5, -1, 0, api.OK},
		{flat(square), 5, 11, 0, api.OK},
		// at the left of corners, and of level lines
		{flat(square), -1, 0, 0, api.OK},
		{flat(square), -1, 10, 0, api.OK},
		{flat([]api.Dot{dot(0, 0), dot(10, 10), dot(0, 20), dot(-10, 10)}), 0, 10, 1, api.OK},
		{flat([]api.Dot{dot(0, 0), dot(10, 10), dot(0, 20), dot(-10, 10)}), -11, 10, 0, api.OK},
		{flat([]api.Dot{dot(0, 0), dot(10, 10), dot(0, 20), dot(-10, 10)}), -1, 0, 0, api.OK},
		{flat([]api.Dot{dot(0, 0), dot(10, 10), dot(0, 20), dot(-10, 10)}), -1, 20, 0, api.OK},
		{flat(star), 0, 0, 2, api.OK},
		{flat(turned(star)), 0, 0, -2, api.OK},
		{flat(star), 0, -60, 1, api.OK},
		{flat(star), 0, 60, 0, api.OK},
		// on a line: in the middle, on a corner, on the line that closes, on a dot alone
		{flat(square), 5, 0, 0, api.ErrNone},
		{flat(square), 0, 5, 0, api.ErrNone},
		{flat(square), 10, 10, 0, api.ErrNone},
		{flat(square), 0, 0, 0, api.ErrNone},
		{flat(square, turned(square)), 10, 5, 0, api.ErrNone},
		{flat([]api.Dot{dot(5, 5)}), 5, 5, 0, api.ErrNone},
		{flat([]api.Dot{dot(5, 5)}), 5, 6, 0, api.OK},
		{flat([]api.Dot{dot(5, 5)}), 4, 5, 0, api.OK},
		{flat([]api.Dot{dot(0, 0), dot(10, 4)}), 5, 2, 0, api.ErrNone},
		{flat([]api.Dot{dot(0, 0), dot(10, 4)}), 4, 2, 0, api.OK},
		{flat([]api.Dot{dot(0, 0), dot(10, 4)}), 15, 6, 0, api.OK},
		{flat([]api.Dot{dot(0, 0), dot(10, 0)}), 11, 0, 0, api.OK},
		// the furthest places
		{flat(rectangle(-most, -most, most, most)), 0, 0, 1, api.OK},
		{flat(rectangle(-most, -most, most, most)), most - 1, most - 1, 1, api.OK},
		{flat(rectangle(-most, -most, most, most)), 1 - most, 1 - most, 1, api.OK},
		{flat(rectangle(-most, -most, most, most)), most, 0, 0, api.ErrNone},
		{flat(rectangle(-most, -most, most, most)), -most, -most, 0, api.ErrNone},
		{flat([]api.Dot{dot(-most, -most), dot(most, most-1), dot(-most, most)}), most - 1, most - 1, 1, api.OK},
		{flat([]api.Dot{dot(-most, -most), dot(most, most-1), dot(-most, most)}), 0, 0, 1, api.OK},
		{flat([]api.Dot{dot(-most, -most), dot(most, most-1), dot(-most, most)}), 0, -1, 0, api.OK},
		{flat(square), most, most, 0, api.OK},
		{flat(square), -most, -most, 0, api.OK},
	} {
		if n, e := exact.Winding(x.l, x.x, x.y); n != x.want || e != x.e {
			t.Error(x.l, x.x, x.y, n, e, x.want, x.e)
		}
	}
}

// drawnFlat is closed lines of places in a grid, so that many lie on lines of one another.
func drawnFlat(draw *rand.Rand, from, to, grid int) [][]api.Dot {
	var l [][]api.Dot
	for range 1 + draw.Intn(3) {
		var ring []api.Dot
		for range draw.Intn(8) {
			number := func() int { return min(max((from+draw.Intn(to-from+1))/grid*grid, -most), most) }
			ring = append(ring, dot(number(), number()))
		}
		l = append(l, ring)
	}
	return l
}

func TestWindingOfDrawnLines(t *testing.T) {
	draw := rand.New(rand.NewSource(24))
	on, in := 0, 0
	for i := range 4000 {
		l, far := drawnFlat(draw, -9, 9, 1), 10
		switch i % 8 {
		case 0:
			l, far = drawnFlat(draw, -most, most, 1), most
		case 1:
			l, far = drawnFlat(draw, -most, most, 1<<18), most
		}
		were := copyOf(l)
		for range 20 {
			x, y := draw.Intn(2*far+1)-far, draw.Intn(2*far+1)-far
			if i%8 == 1 {
				x, y = x>>17<<17, y>>17<<17
			}
			n, e := exact.Winding(l, x, y)
			if plainOn(l, x, y) {
				on++
				if n != 0 || e != api.ErrNone {
					t.Fatal(l, x, y, n, e, "on a line")
				}
				continue
			}
			if want := plainWinding(l, x, y); n != want || e != api.OK {
				t.Fatal(l, x, y, n, e, want)
			}
			if n != 0 {
				in++
			}
		}
		if !same(l, were) {
			t.Fatal("changes what is handed in")
		}
	}
	if on < 1000 || in < 5000 {
		t.Error(on, in)
	}
}

// wrongFlats is closed lines that may not be, with what they are refused with.
func wrongFlats() map[api.Errno][][][]api.Dot {
	long := slices.Repeat(rectangle(0, 0, 64, 64), 1<<14)
	return map[api.Errno][][][]api.Dot{
		api.ErrLong: {flat(long, []api.Dot{dot(1, 1)}), flat([]api.Dot{dot(most+1, 0)}, long), flat(append(slices.Clone(long), dot(0, math.MinInt)))},
		api.ErrOver: {flat([]api.Dot{dot(most+1, 0)}), flat([]api.Dot{dot(0, most+1)}), flat(rectangle(-most-1, 0, 5, 5)), flat(rectangle(0, -most-1, 5, 5)), flat(nil, rectangle(0, 0, 64, 64), []api.Dot{dot(math.MaxInt, 1)}), flat([]api.Dot{dot(math.MinInt, math.MinInt)}), flat(append(slices.Clone(long[1:]), dot(1<<32, 0)))},
	}
}

// TestRefused: each error at its bound, in order.
func TestRefused(t *testing.T) {
	numbers := []int{0, 1, most, most + 1, -most - 1, 1<<14 + 1, math.MinInt, math.MaxInt}
	for want, all := range wrongFlats() {
		for _, l := range all {
			for _, x := range numbers {
				if n, e := exact.Winding(l, x, 0); n != 0 || e != want {
					t.Error(x, n, e, want)
				}
				if n, e := exact.Tally(l, 0, x); n != (api.Tally{}) || e != want {
					t.Error(x, n, e, want)
				}
			}
			if exact.Convex(l) {
				t.Error("is convex", want)
			}
		}
	}
	cross := flat([]api.Dot{dot(-most, 0), dot(most, 0)}, []api.Dot{dot(0, -most), dot(0, most)})
	for _, far := range []int{most + 1, -most - 1, math.MinInt, math.MaxInt, 1 << 32, -1 << 32, touch} {
		for _, at := range [][2]int{{far, 0}, {0, far}, {far, far}, {far, 7}, {7, far}} {
			if n, e := exact.Winding(cross, at[0], at[1]); n != 0 || e != api.ErrOver {
				t.Error(at, n, e)
			}
		}
	}
	for _, far := range []int{1<<14 + 1, -1<<14 - 1, math.MinInt, math.MaxInt, 1 << 32, -1 << 32, most, 1 << 58} {
		for _, at := range [][2]int{{far, 0}, {0, far}, {far, far}, {far, 7}, {7, far}} {
			if n, e := exact.Tally(cross, at[0], at[1]); n != (api.Tally{}) || e != api.ErrOver {
				t.Error(at, n, e)
			}
		}
	}
	// as many dots as may be
	long := flat(slices.Repeat(rectangle(0, 0, 64, 64), 1<<14))
	if n, e := exact.Winding(long, 5, 5); n != 1<<14 || e != api.OK {
		t.Error(n, e)
	}
	if n, e := exact.Tally(long, 0, 0); n != (api.Tally{Touched: 60, Inside: 196, Most: 1 << 14, Least: 1 << 14, Lines: 1 << 16}) || e != api.OK {
		t.Error(n, e)
	}
}

// TestAllTouches: all lines between dots of a grid, all boxes of it, those that are one place or one line of places as well.
func TestAllTouches(t *testing.T) {
	const n = 5
	var dots []api.Dot
	for i := range n * n {
		dots = append(dots, dot(i/n, i%n))
	}
	for _, by := range []int{1, 3, -2, touch / n} {
		for _, p := range dots {
			for _, q := range dots {
				b := box(min(p.X*by, q.X*by), p.Y*by, max(p.X*by, q.X*by), q.Y*by)
				for _, a := range dots {
					for _, d := range dots {
						a, d := dot(a.X*by, a.Y*by), dot(d.X*by, d.Y*by)
						want := b.Y0 <= b.Y1 && plainTouches(a, d, b)
						if (by == 1 || (a.X+d.Y+p.Y)%3 == 0) && exact.Touches(a, d, b) != want {
							t.Fatal(a, d, b, !want)
						}
					}
				}
			}
		}
	}
}

func TestTouches(t *testing.T) {
	b := box(0, 0, 4, 4)
	for _, x := range []struct {
		a, d api.Dot
		b    api.Box
		want bool
	}{
		{dot(1, 1), dot(2, 2), b, true},
		{dot(-5, 2), dot(9, 2), b, true},
		{dot(2, 9), dot(2, -9), b, true},
		{dot(4, 4), dot(9, 9), b, true},
		{dot(5, 4), dot(9, 9), b, false},
		{dot(-5, 0), dot(-1, 0), b, false},
		{dot(-5, 0), dot(0, 0), b, true},
		// edges, and corners, from outside
		{dot(4, -3), dot(4, 9), b, true},
		{dot(5, -3), dot(5, 9), b, false},
		{dot(-4, 4), dot(9, 4), b, true},
		{dot(-4, 5), dot(9, 5), b, false},
		{dot(3, -1), dot(5, 1), b, true},
		{dot(4, -1), dot(6, 1), b, false},
		{dot(-1, 5), dot(1, 3), b, true},
		{dot(-1, 3), dot(1, 5), b, true},
		{dot(-2, 3), dot(1, 6), b, false},
		{dot(3, -3), dot(6, 2), b, false},
		{dot(4, 0), dot(4, 0), b, true},
		{dot(5, 5), dot(5, 5), b, false},
		{dot(2, 2), dot(2, 2), box(2, 2, 2, 2), true},
		{dot(0, 0), dot(4, 4), box(2, 2, 2, 2), true},
		{dot(0, 0), dot(4, 4), box(2, 3, 2, 3), false},
		{dot(0, 0), dot(4, 2), box(1, 0, 1, 1), true},
		{dot(0, 0), dot(9, 9), box(4, 0, 0, 4), false},
		{dot(0, 0), dot(9, 9), box(0, 4, 4, 0), false},
		{dot(2, 2), dot(2, 2), box(3, 0, 1, 4), false},
		// the furthest numbers, and lines that go by as near as can be
		{dot(-touch, -touch), dot(touch, touch), box(-touch, -touch, touch, touch), true},
		{dot(-touch, -touch), dot(touch, touch), box(5, 5, 5, 5), true},
		{dot(-touch, -touch), dot(touch, touch), box(5, 6, 5, 6), false},
		{dot(-touch, -touch), dot(touch, touch-1), box(0, -1, 0, 0), true},
		{dot(-touch, -touch), dot(touch, touch-1), box(0, 0, 0, 0), false},
		{dot(-touch, -touch), dot(touch, touch-1), box(0, -1, 0, -1), false},
		{dot(touch, -touch), dot(-touch, touch), box(-touch, -touch, 0, -1), false},
		{dot(touch, -touch), dot(-touch, touch), box(-touch, -touch, 1, -1), true},
		{dot(touch, touch), dot(touch, touch), box(touch, touch, touch, touch), true},
		{dot(-touch, touch), dot(-touch, touch), box(-touch, -touch, touch, touch), true},
	} {
		if exact.Touches(x.a, x.d, x.b) != x.want || exact.Touches(x.d, x.a, x.b) != x.want {
			t.Error(x.a, x.d, x.b, !x.want)
		}
	}
	// each of the eight numbers at its bound and beyond, where the line lies in the box all the same
	for i := range 8 {
		for _, far := range []int{touch, touch + 1, 1 << 31, 1 << 32, 1<<32 + 1, math.MaxInt} {
			n := [8]int{1, 1, 2, 2, 0, 0, 4, 4}
			n[i] = far
			if i == 4 || i == 5 {
				n[i] = -far
			}
			if i < 4 {
				n[6], n[7] = touch, touch
			}
			if exact.Touches(dot(n[0], n[1]), dot(n[2], n[3]), box(n[4], n[5], n[6], n[7])) != (far == touch) {
				t.Error(n)
			}
			if exact.Touches(dot(-n[0], -n[1]), dot(-n[2], -n[3]), box(-n[6], -n[7], -n[4], -n[5])) != (far == touch) {
				t.Error(n, "turned")
			}
		}
	}
	if exact.Touches(dot(math.MinInt, 0), dot(5, 5), b) || exact.Touches(dot(5, 5), dot(0, math.MinInt), b) || exact.Touches(dot(1, 1), dot(2, 2), box(math.MinInt, 0, 4, 4)) || exact.Touches(dot(1, 1), dot(2, 2), box(0, math.MinInt, 4, 4)) {
		t.Error("too far away")
	}
}

func TestDrawnTouches(t *testing.T) {
	draw := rand.New(rand.NewSource(242))
	there := 0
	for range 60000 {
		far := 1 << (1 + draw.Intn(21))
		number := func() int { return draw.Intn(2*far+1) - far }
		a, d, p, q := dot(number(), number()), dot(number(), number()), dot(number(), number()), dot(number(), number())
		if draw.Intn(2) == 0 {
			q = dot(p.X+draw.Intn(3), p.Y+draw.Intn(far/8+1))
		}
		b := box(min(p.X, q.X), min(p.Y, q.Y), min(max(p.X, q.X), touch), min(max(p.Y, q.Y), touch))
		want := plainTouches(a, d, b)
		if exact.Touches(a, d, b) != want {
			t.Fatal(a, d, b, !want)
		}
		if want {
			there++
		}
	}
	if there < 10000 || there > 50000 {
		t.Error(there)
	}
}

// TestTalliesInFull tells tallies number by number.
func TestTalliesInFull(t *testing.T) {
	square := rectangle(0, 0, 64, 64)
	for _, x := range []struct {
		l    [][]api.Dot
		x, y int
		want api.Tally
	}{
		{nil, 0, 0, api.Tally{}},
		{flat(nil, nil), 1 << 14, -1 << 14, api.Tally{}},
		{flat(turned(square)), 0, 0, api.Tally{Touched: 60, Inside: 196, Most: -1, Least: -1, Lines: 4}},
		{flat(square, square), 0, 0, api.Tally{Touched: 60, Inside: 196, Most: 2, Least: 2, Lines: 8}},
		{flat(square, turned(square)), 0, 0, api.Tally{Touched: 60, Lines: 8}},
		// beside the pixel: its left column of squares is touched; at its corner one is
		{flat(square), 1, 0, api.Tally{Touched: 16, Lines: 3}},
		{flat(square), 0, -1, api.Tally{Touched: 16, Lines: 3}},
		{flat(square), 1, 1, api.Tally{Touched: 1, Lines: 2}},
		{flat(square), -1, -1, api.Tally{Touched: 1, Lines: 2}},
		{flat(square), 2, 0, api.Tally{}},
		// half inside: those that are not have the least
		{flat(rectangle(30, -100, 100, 200)), 0, 0, api.Tally{Touched: 16, Inside: 128, Most: 1, Least: 0, Lines: 1}},
		{flat(turned(rectangle(30, -100, 100, 200))), 0, 0, api.Tally{Touched: 16, Inside: 128, Most: 0, Least: -1, Lines: 1}},
		// at the edge of two columns of squares both are touched
		{flat(rectangle(32, -100, 100, 200)), 0, 0, api.Tally{Touched: 32, Inside: 112, Most: 1, Least: 0, Lines: 1}},
		// one round, one back, one twice
		{flat(rectangle(-9, -9, 14, 99), turned(rectangle(18, -9, 30, 99)), rectangle(34, -9, 99, 99), rectangle(50, -9, 99, 99)), 0, 0, api.Tally{Touched: 5 * 16, Inside: (3 + 2 + 3 + 3) * 16, Most: 2, Least: -1, Lines: 5}},
		// wholly inside, wholly outside
		{flat(rectangle(-64, -64, 128, 128)), 0, 0, api.Tally{Inside: 256, Most: 1, Least: 1}},
		{flat(turned(rectangle(-64, -64, 128, 128))), 0, 0, api.Tally{Inside: 256, Most: -1, Least: -1}},
		{flat(rectangle(-64, -64, 128, 128)), 5, 0, api.Tally{}},
		{flat(rectangle(-64, -64, 128, 128)), -5, 0, api.Tally{}},
		// lines come near up to 4 dots away, and no further
		{flat(rectangle(-4, -4, 68, 68)), 0, 0, api.Tally{Inside: 256, Most: 1, Least: 1, Lines: 4}},
		{flat(rectangle(-5, -5, 69, 69)), 0, 0, api.Tally{Inside: 256, Most: 1, Least: 1}},
		{flat([]api.Dot{dot(-4, -4)}), 0, 0, api.Tally{Lines: 1}},
		{flat([]api.Dot{dot(68, 68)}), 0, 0, api.Tally{Lines: 1}},
		{flat([]api.Dot{dot(69, 68)}), 0, 0, api.Tally{}},
		{flat([]api.Dot{dot(-5, 3)}), 0, 0, api.Tally{}},
		// a dot alone is a line; two dots are two
		{flat([]api.Dot{dot(5, 5)}), 0, 0, api.Tally{Touched: 1, Lines: 1}},
		{flat([]api.Dot{dot(4, 4)}), 0, 0, api.Tally{Touched: 4, Lines: 1}},
		{flat([]api.Dot{dot(4, 5), dot(4, 5)}), 0, 0, api.Tally{Touched: 2, Lines: 2}},
		{flat([]api.Dot{dot(1, 1), dot(63, 63)}), 0, 0, api.Tally{Touched: 16 + 30, Lines: 2}},
		// all squares are touched: none is another one
		{flat(stripes()), 0, 0, api.Tally{Touched: 256, Lines: 49}},
		// the furthest pixels, beyond the furthest dots
		{flat(rectangle(most-64, 0, most, 64)), 1 << 14, 0, api.Tally{Touched: 16, Lines: 3}},
		{flat(rectangle(-most, -most, most, most)), 1 << 14, 1 << 14, api.Tally{Touched: 1, Lines: 2}},
		{flat(rectangle(-most, -most, most, most)), -1 << 14, -1 << 14, api.Tally{Touched: 31, Inside: 225, Most: 1, Least: 1, Lines: 2}},
		{flat(rectangle(-most, -most, most, most)), 1<<14 - 1, 1<<14 - 1, api.Tally{Touched: 31, Inside: 225, Most: 1, Least: 1, Lines: 2}},
	} {
		if n := tally(t, x.l, x.x, x.y); n != x.want {
			t.Error(x.l, x.x, x.y, n, x.want)
		}
	}
}

// stripes is a ring that goes up and down in a pixel, in each column of squares.
func stripes() []api.Dot {
	var l []api.Dot
	for x := 1; x < 64; x += 4 {
		l = append(l, dot(x, 0), dot(x, 64), dot(x, 0))
	}
	return slices.Compact(append(l[:len(l)-1], dot(61, 65), dot(0, 65)))
}

func TestDrawnTallies(t *testing.T) {
	draw := rand.New(rand.NewSource(243))
	sum := api.Tally{}
	for i := range 250 {
		l := drawnFlat(draw, -70, 140, 1)
		switch i % 5 {
		case 0:
			l = drawnFlat(draw, -70, 140, 4)
		case 1:
			l = drawnFlat(draw, -70, 140, 32)
		case 2:
			l = append(drawnFlat(draw, -most, most, 1), drawnFlat(draw, -9, 70, 1)...)
		}
		n := tally(t, l, draw.Intn(3)-1, draw.Intn(3)-1)
		sum.Touched, sum.Inside, sum.Most, sum.Least, sum.Lines = sum.Touched+n.Touched, sum.Inside+n.Inside, sum.Most+n.Most, sum.Least+n.Least, sum.Lines+n.Lines
	}
	if sum.Touched < 5000 || sum.Inside < 5000 || sum.Most < 50 || sum.Least > -50 || sum.Lines < 500 {
		t.Error(sum)
	}
}

// moved is closed lines so many pixels further on.
func moved(l [][]api.Dot, dx, dy int) [][]api.Dot {
	l = copyOf(l)
	for _, ring := range l {
		for i := range ring {
			ring[i] = dot(ring[i].X+64*dx, ring[i].Y+64*dy)
		}
	}
	return l
}

// TestTalliesFarAway: a pixel's tally moves with its lines.
func TestTalliesFarAway(t *testing.T) {
	draw := rand.New(rand.NewSource(244))
	for range 100 {
		l := drawnFlat(draw, -64, 128, 1)
		want, _ := exact.Tally(l, 0, 0)
		for _, by := range [][2]int{{16382, 0}, {-16383, -16383}, {-16383, 16382}, {5, 16382}} {
			if n, e := exact.Tally(moved(l, by[0], by[1]), by[0], by[1]); n != want || e != api.OK {
				t.Fatal(l, by, n, e, want)
			}
		}
	}
}

// TestAtOnce: what is answered does not hang on who else asks.
func TestAtOnce(t *testing.T) {
	l := flat(rectangle(-9, -9, 40, 40), []api.Dot{dot(3, 3), dot(60, 50), dot(20, 70)})
	want := plainTally(l, 0, 0)
	var wait sync.WaitGroup
	for range 8 {
		wait.Go(func() {
			if n, e := exact.Tally(l, 0, 0); n != want || e != api.OK {
				t.Error(n, e)
			}
			if n, e := exact.Winding(l, -8, -8); n != 1 || e != api.OK {
				t.Error(n, e)
			}
			if exact.Convex(l) || !exact.Convex(l[1:]) || !exact.Touches(dot(0, 0), dot(3, 3), box(2, 2, 2, 2)) {
				t.Error("convex, or touches")
			}
		})
	}
	wait.Wait()
}

// keepsItsByte asks that a pixel's byte lies between what is covered for sure, and what may be.
func keepsItsByte(t *testing.T, l [][]api.Dot, m api.Mask, x, y int) {
	t.Helper()
	n, e := exact.Tally(l, x, y)
	if e != api.OK {
		t.Fatal(l, x, y, e)
	}
	b := 8192 * raster.At(m, x, y)
	if b < 255*(32*n.Inside-384*n.Lines)-4096-8192 || b > 255*(32*(n.Inside+n.Touched)+384*n.Lines)+4096 {
		t.Error(l, x, y, b, n)
	}
}
