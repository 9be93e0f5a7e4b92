package curve_test

import (
	"iter"
	"math"
	"math/big"
	"math/rand"
	"slices"
	"sync"
	"testing"

	"serif/api"
	"serif/curve"
)

const (
	line  = api.CurveLine
	quad  = api.CurveQuad
	cubic = api.CurveCubic
	most  = 1 << 20
)

// kinds is those that there are.
var kinds = []int{line, quad, cubic}

// noKinds is numbers of no kind.
var noKinds = []int{0, -1, 4, 5, 256, 257, 1<<32 + 1, -1 << 32, math.MinInt, math.MaxInt}

func dot(x, y int) api.Dot { return api.Dot{X: x, Y: y} }

// lineOf, quadOf and cubicOf are bows, in whose other places stands what is not to be looked at.
func lineOf(a, d api.Dot) api.Bow {
	return api.Bow{Kind: line, A: a, B: dot(math.MinInt, math.MaxInt), C: dot(1<<20+1, 77), D: d}
}

func quadOf(a, b, d api.Dot) api.Bow {
	return api.Bow{Kind: quad, A: a, B: b, C: dot(math.MaxInt, math.MinInt), D: d}
}

func cubicOf(a, b, c, d api.Dot) api.Bow { return api.Bow{Kind: cubic, A: a, B: b, C: c, D: d} }

// its is the places that a bow has.
func its(c *api.Bow) []*api.Dot {
	return map[int][]*api.Dot{line: {&c.A, &c.D}, quad: {&c.A, &c.B, &c.D}, cubic: {&c.A, &c.B, &c.C, &c.D}}[c.Kind]
}

// samples is bows that may be, of all kinds.
func samples() []api.Bow {
	l := []api.Bow{
		quadOf(dot(0, 0), dot(64, 0), dot(64, 64)),
		quadOf(dot(0, 0), dot(0, 0), dot(0, 0)),
		quadOf(dot(-most, -most), dot(most, most), dot(-most, most)),
		cubicOf(dot(0, 0), dot(0, 640), dot(640, 640), dot(640, 0)),
		cubicOf(dot(most, most), dot(-most, most), dot(most, -most), dot(-most, -most)),
		cubicOf(dot(1, 2), dot(3, 4), dot(5, 6), dot(7, 8)),
		lineOf(dot(0, 0), dot(1, -1)),
		lineOf(dot(-most, most), dot(most, -most)),
		lineOf(dot(5, 5), dot(5, 5)),
	}
	draw := rand.New(rand.NewSource(20))
	for i := range 60 {
		l = append(l, drawn(draw, kinds[i%3], 1<<draw.Intn(21)))
	}
	return l
}

// drawn is a bow whose numbers are up to most from 0.
func drawn(draw *rand.Rand, kind, most int) api.Bow {
	number := func() int { return draw.Intn(2*most+1) - most }
	c := api.Bow{Kind: kind}
	for _, d := range its(&c) {
		*d = dot(number(), number())
	}
	return c
}

// nearest is floor(a/b + 1/2), of numbers of any size.
func nearest(a, b *big.Int) int {
	two := big.NewInt(2)
	n := new(big.Int).Add(new(big.Int).Mul(a, two), b)
	return int(n.Div(n, new(big.Int).Mul(b, two)).Int64()) // Div rounds down, b being above 0
}

// asIsPlain is the place at i of n as the chapter writes it down.
func asIsPlain(c api.Bow, i, n int) api.Dot {
	big64 := func(x int) *big.Int { return big.NewInt(int64(x)) }
	product := func(l ...int) *big.Int {
		p := big64(1)
		for _, x := range l {
			p.Mul(p, big64(x))
		}
		return p
	}
	sum := func(l ...*big.Int) *big.Int {
		s := big64(0)
		for _, x := range l {
			s.Add(s, x)
		}
		return s
	}
	j := n - i
	place := func(a, b, c3, d int) int {
		switch c.Kind {
		case line:
			return nearest(sum(product(j, a), product(i, d)), big64(n))
		case quad:
			return nearest(sum(product(j, j, a), product(2, i, j, b), product(i, i, d)), product(n, n))
		}
		return nearest(sum(product(j, j, j, a), product(3, i, j, j, b), product(3, i, i, j, c3), product(i, i, i, d)), product(n, n, n))
	}
	return dot(place(c.A.X, c.B.X, c.C.X, c.D.X), place(c.A.Y, c.B.Y, c.C.Y, c.D.Y))
}

// plainBend is how far a bow bends, number by number.
func plainBend(c api.Bow) int {
	abs := func(x int) int {
		if x < 0 {
			return -x
		}
		return x
	}
	d := 0
	three := func(a, b, e api.Dot) {
		d = max(d, abs(a.X-2*b.X+e.X), abs(a.Y-2*b.Y+e.Y))
	}
	if c.Kind == quad {
		three(c.A, c.B, c.D)
	}
	if c.Kind == cubic {
		three(c.A, c.B, c.C)
		three(c.B, c.C, c.D)
	}
	return d
}

// plainPieces is how many pieces are enough, counted down from the most.
func plainPieces(c api.Bow) int {
	if c.Kind == line {
		return 1
	}
	d := plainBend(c)
	if c.Kind == cubic {
		d = 3 * d
	}
	n := 256
	for n > 1 && d <= 8*(n-1)*(n-1) {
		n--
	}
	return n
}

func dotsOf(s iter.Seq[api.Dot]) []api.Dot { return slices.Collect(s) }

func TestExample(t *testing.T) {
	c := quadOf(dot(0, 0), dot(64, 0), dot(64, 64))
	if !curve.May(c) || curve.Bend(c) != 64 || curve.Pieces(c) != 3 {
		t.Error(curve.May(c), curve.Bend(c), curve.Pieces(c))
	}
	if l := dotsOf(curve.Dots(c)); !slices.Equal(l, []api.Dot{{X: 36, Y: 7}, {X: 57, Y: 28}, {X: 64, Y: 64}}) {
		t.Error(l)
	}
}

// refused asks that of a bow that may not be there is nothing.
func refused(t *testing.T, c api.Bow) {
	t.Helper()
	if curve.May(c) || curve.Bend(c) != 0 || curve.Pieces(c) != 0 {
		t.Error(c, curve.May(c), curve.Bend(c), curve.Pieces(c))
	}
	for _, at := range [][2]int{{0, 1}, {1, 1}, {1, 2}, {0, 0}, {512, 512}} {
		if d, e := curve.At(c, at[0], at[1]); d != (api.Dot{}) || e != api.ErrArg {
			t.Error(c, at, d, e)
		}
	}
	for d := range curve.Dots(c) {
		t.Error(c, "has", d)
	}
}

// TestMay: each number of each place that a bow has, up to the bounds and beyond.
func TestMay(t *testing.T) {
	for _, kind := range kinds {
		base := api.Bow{Kind: kind}
		for i := range its(&base) {
			for _, x := range []int{-most - 1, most + 1, -most, most, -1 << 31, 1 << 31, 1 << 32, -1 << 32, 1<<32 + 5, math.MinInt, math.MinInt + 1, math.MaxInt, 0, 1, -1} {
				for _, put := range []func(*api.Dot){func(d *api.Dot) { d.X = x }, func(d *api.Dot) { d.Y = x }} {
					c := base
					put(its(&c)[i])
					want := -most <= x && x <= most
					if curve.May(c) != want {
						t.Error(c, !want)
					}
					if !want {
						refused(t, c)
					}
				}
			}
		}
	}
	for _, kind := range noKinds {
		refused(t, api.Bow{Kind: kind})
		refused(t, api.Bow{Kind: kind, A: dot(1, 2), B: dot(3, 4), C: dot(5, 6), D: dot(70, 80)})
	}
}

// TestOthers: what a bow has not is not looked at.
func TestOthers(t *testing.T) {
	for _, x := range []int{math.MinInt, math.MaxInt, most + 1, -most - 1, 5} {
		for _, c := range samples() {
			other := c
			if c.Kind != cubic {
				other.C = dot(x, -x)
			}
			if c.Kind == line {
				other.B = dot(-x, x)
			}
			if !curve.May(other) || curve.Bend(other) != curve.Bend(c) || curve.Pieces(other) != curve.Pieces(c) || curve.Turn(other) != curve.Turn(c) {
				t.Error(other, "is not as", c)
			}
			if !slices.Equal(dotsOf(curve.Dots(other)), dotsOf(curve.Dots(c))) {
				t.Error("dots of", other)
			}
			have, e := curve.At(other, 3, 7)
			if want, _ := curve.At(c, 3, 7); have != want || e != api.OK {
				t.Error(other, have, want, e)
			}
		}
	}
}

func TestBend(t *testing.T) {
	o := dot(0, 0)
	for _, c := range []struct {
		bow  api.Bow
		want int
	}{
		{lineOf(o, dot(1000, 1)), 0},
		{quadOf(o, dot(10, 0), dot(20, 0)), 0},
		{quadOf(o, dot(10, 3), dot(20, 0)), 6},
		{quadOf(o, dot(10, -3), dot(20, 0)), 6},
		{quadOf(o, dot(10, 3), dot(27, 0)), 7},
		{quadOf(o, dot(10, 3), dot(13, 0)), 7},
		{quadOf(dot(5, 0), dot(0, 0), dot(4, 2)), 9},
		{quadOf(dot(0, 5), dot(0, 0), dot(2, 4)), 9},
		{quadOf(dot(-most, 0), dot(most, 0), dot(-most, 0)), 4 * most},
		{quadOf(dot(0, most), dot(0, -most), dot(0, most)), 4 * most},
		{cubicOf(o, dot(10, 0), dot(20, 0), dot(30, 0)), 0},
		{cubicOf(o, dot(11, 0), dot(20, 0), dot(29, 0)), 2},
		{cubicOf(o, dot(10, 0), dot(20, 0), dot(35, 0)), 5},
		{cubicOf(o, dot(10, 0), dot(20, 0), dot(25, 0)), 5},
		{cubicOf(dot(6, 0), dot(10, 0), dot(20, 0), dot(30, 0)), 6},
		{cubicOf(dot(0, -6), dot(0, 10), dot(0, 30), dot(0, 50)), 4},
		{cubicOf(o, dot(0, 10), dot(0, 20), dot(0, 37)), 7},
		{cubicOf(o, dot(0, 10), dot(0, 20), dot(0, 23)), 7},
		{cubicOf(dot(0, 9), dot(0, 10), dot(0, 20), dot(0, 30)), 9},
		{cubicOf(dot(5, 1), dot(0, 3), dot(0, 5), dot(4, 0)), 7},
		{cubicOf(dot(most, 0), dot(-most, 0), dot(most, 0), dot(-most, 0)), 4 * most},
	} {
		if d := curve.Bend(c.bow); d != c.want || d != plainBend(c.bow) {
			t.Error(c.bow, d, c.want)
		}
	}
	for _, c := range samples() {
		if curve.Bend(c) != plainBend(c) {
			t.Error(c, curve.Bend(c), plainBend(c))
		}
	}
}

// TestPieces: on both sides of where one more is needed, up to the most.
func TestPieces(t *testing.T) {
	// straight is a bow that bends just so far, in X or in Y.
	bent := func(kind, d int) []api.Bow {
		if kind == quad {
			return []api.Bow{quadOf(dot(0, 0), dot(0, 0), dot(d, 0)), quadOf(dot(0, -d), dot(0, 0), dot(0, 0))}
		}
		return []api.Bow{cubicOf(dot(0, d), dot(0, 0), dot(0, 0), dot(0, 0)), cubicOf(dot(0, 0), dot(0, 0), dot(0, 0), dot(-d, 1))}
	}
	check := func(kind, d, want int) {
		t.Helper()
		for _, c := range bent(kind, d) {
			if n := curve.Pieces(c); curve.Bend(c) != d || n != want || n != plainPieces(c) {
				t.Error(c, curve.Bend(c), n, want)
			}
			if l := dotsOf(curve.Dots(c)); len(l) != want {
				t.Error(c, len(l), want)
			}
		}
	}
	for n := 1; n <= 256; n++ {
		check(quad, 8*n*n, n)
		check(quad, 8*n*n+1, min(n+1, 256))
		check(cubic, 8*n*n/3, n)
		check(cubic, 8*n*n/3+1, min(n+1, 256))
	}
	for _, kind := range kinds[1:] {
		check(kind, 1, 1)
		check(kind, most, 256)
	}
	for _, c := range samples() {
		if n := curve.Pieces(c); n != plainPieces(c) {
			t.Error(c, n)
		}
	}
	if n := curve.Pieces(lineOf(dot(-most, -most), dot(most, most))); n != 1 {
		t.Error("a line", n)
	}
}

// TestAt: each place of some counts, of which the greatest is twice the most pieces.
func TestAt(t *testing.T) {
	for _, c := range samples() {
		for _, n := range []int{1, 2, 3, 4, 7, 16, 100, 255, 256, 257, 511, 512} {
			for i := range n + 1 {
				if d, e := curve.At(c, i, n); e != api.OK || d != asIsPlain(c, i, n) {
					t.Fatal(c, i, n, d, e, asIsPlain(c, i, n))
				}
			}
		}
		for n := 1; n <= 512; n++ {
			first, e := curve.At(c, 0, n)
			if last, e2 := curve.At(c, n, n); first != c.A || last != c.D || e != api.OK || e2 != api.OK {
				t.Error(c, n, first, last, e, e2)
			}
		}
	}
}

// TestRounding: of two that are as near the greater one.
func TestRounding(t *testing.T) {
	for _, c := range []struct{ a, d, want int }{
		{0, 1, 1}, {-1, 0, 0}, {0, -1, 0}, {-3, 0, -1}, {0, 3, 2}, {-2, -1, -1}, {-2, -3, -2}, {1, 1, 1}, {most - 1, most, most}, {-most, 1 - most, 1 - most},
	} {
		for _, bow := range []api.Bow{
			lineOf(dot(c.a, 0), dot(c.d, 0)),
			lineOf(dot(0, c.a), dot(0, c.d)),
		} {
			d, e := curve.At(bow, 1, 2)
			if e != api.OK || d.X+d.Y != c.want || d.X*d.Y != 0 {
				t.Error(bow, d, e)
			}
		}
	}
	// a quarter, a half, and three quarters of one more
	for i, want := range []int{0, 0, 1, 1, 1} {
		if d, e := curve.At(lineOf(dot(0, -1), dot(1, 0)), i, 4); e != api.OK || d != dot(want, want-1) {
			t.Error(i, d, e)
		}
	}
}

func TestAtRefuses(t *testing.T) {
	for _, c := range samples() {
		for _, at := range [][2]int{
			{0, 0}, {0, -1}, {-1, -1}, {1, 0}, {0, 513}, {513, 513}, {1, 513}, {0, math.MaxInt}, {0, math.MinInt}, {1, 1 << 32}, {0, 1<<32 + 1},
			{-1, 1}, {2, 1}, {-1, 512}, {513, 512}, {math.MinInt, 5}, {math.MaxInt, 5}, {1 << 32, 5}, {1 - 1<<32, 5}, {6, 5},
		} {
			if d, e := curve.At(c, at[0], at[1]); d != (api.Dot{}) || e != api.ErrArg {
				t.Error(c, at, d, e)
			}
		}
	}
}

// TestTurn: there, and back; also of numbers that may not be.
func TestTurn(t *testing.T) {
	a, b, c, d := dot(1, 2), dot(3, 4), dot(5, 6), dot(7, 8)
	far := dot(math.MinInt, math.MaxInt)
	for _, x := range []struct{ bow, want api.Bow }{
		{api.Bow{Kind: line, A: a, B: b, C: c, D: d}, api.Bow{Kind: line, A: d, D: a}},
		{api.Bow{Kind: quad, A: a, B: b, C: c, D: d}, api.Bow{Kind: quad, A: d, B: b, D: a}},
		{api.Bow{Kind: cubic, A: a, B: b, C: c, D: d}, api.Bow{Kind: cubic, A: d, B: c, C: b, D: a}},
		{api.Bow{Kind: line, A: far, B: far, C: far, D: d}, api.Bow{Kind: line, A: d, D: far}},
		{api.Bow{Kind: quad, A: a, B: far, C: far, D: d}, api.Bow{Kind: quad, A: d, B: far, D: a}},
		{api.Bow{Kind: cubic, A: a, B: far, C: c, D: d}, api.Bow{Kind: cubic, A: d, B: c, C: far, D: a}},
	} {
		if have := curve.Turn(x.bow); have != x.want {
			t.Error(x.bow, have, x.want)
		}
	}
	for _, bow := range samples() {
		turned := curve.Turn(bow)
		if !curve.May(turned) || curve.Bend(turned) != curve.Bend(bow) || curve.Pieces(turned) != curve.Pieces(bow) {
			t.Error(bow, "turned is another one")
		}
		if back := curve.Turn(turned); curve.Turn(back) != turned || back.A != bow.A || back.D != bow.D {
			t.Error(bow, "turned twice", back)
		}
		for i := range 12 {
			there, _ := curve.At(bow, i, 11)
			if back, e := curve.At(turned, 11-i, 11); back != there || e != api.OK {
				t.Error(bow, i, there, back, e)
			}
		}
	}
}

// TestDots is stopped at each dot, begun anew, and ranged over within itself.
func TestDots(t *testing.T) {
	for _, c := range samples() {
		var want []api.Dot
		n := plainPieces(c)
		for i := 1; i <= n; i++ {
			want = append(want, asIsPlain(c, i, n))
		}
		dots := curve.Dots(c)
		for range 2 {
			if l := dotsOf(dots); !slices.Equal(l, want) {
				t.Error(c, l, want)
			}
		}
		for stop := 1; stop <= min(n, 9); stop++ {
			var l []api.Dot
			for d := range dots {
				if l = append(l, d); len(l) == stop {
					break
				}
			}
			if !slices.Equal(l, want[:stop]) {
				t.Error(c, stop, l)
			}
		}
		if n > 20 {
			continue
		}
		i := 0
		for a := range dots {
			j := 0
			for b := range dots {
				if a != want[i] || b != want[j] {
					t.Error(c, i, j)
				}
				j++
			}
			i++
		}
	}
}

// TestNearness: the middle between two dots is near the bow, where there are pieces enough.
func TestNearness(t *testing.T) {
	draw := rand.New(rand.NewSource(203))
	enough := 0
	for range 4000 {
		c := drawn(draw, kinds[draw.Intn(3)], 1<<(2+draw.Intn(19)))
		d := plainBend(c)
		if c.Kind == cubic {
			d *= 3
		}
		n := curve.Pieces(c)
		last := c.A
		i := 0
		for next := range curve.Dots(c) {
			middle, e := curve.At(c, 2*i+1, 2*n)
			if x, y := 2*middle.X-last.X-next.X, 2*middle.Y-last.Y-next.Y; e != api.OK || d <= 8*n*n && max(x, -x, y, -y) > 6 {
				t.Fatal(c, n, i, last, middle, next, e)
			}
			last = next
			i++
		}
		if last != c.D || i != n {
			t.Fatal(c, "ends at", last, "behind", i)
		}
		if d <= 8*n*n {
			enough++
		}
	}
	if enough < 2000 || enough == 4000 {
		t.Error("not of both kinds:", enough)
	}
}

// TestAtOnce: what is answered does not hang on who else asks.
func TestAtOnce(t *testing.T) {
	var all sync.WaitGroup
	for _, c := range samples() {
		want := dotsOf(curve.Dots(c))
		dots := curve.Dots(c)
		for range 3 {
			all.Go(func() {
				if l := dotsOf(dots); !slices.Equal(l, want) {
					t.Error(c, l)
				}
			})
		}
	}
	all.Wait()
}
