package flatten_test

import (
	"math"
	"math/big"
	"math/rand"
	"slices"
	"sync"
	"testing"

	"serif/api"
	"serif/curve"
	"serif/flatten"
	"serif/outline"
)

const (
	most = 1 << 20
	one  = 1 << 16
	far  = 1 << 31
)

// on, quad and cubic are points of each kind, in 16.16 units.
func on(x, y int) api.Point    { return api.Point{X: x, Y: y, Kind: api.PointOn} }
func quad(x, y int) api.Point  { return api.Point{X: x, Y: y, Kind: api.PointQuad} }
func cubic(x, y int) api.Point { return api.Point{X: x, Y: y, Kind: api.PointCubic} }

func dot(x, y int) api.Dot { return api.Dot{X: x, Y: y} }

func scale(units, ppem, x, y int) api.Scale {
	return api.Scale{Units: units, Ppem: ppem, PhaseX: x, PhaseY: y}
}

// whole lets 64 units be 64 dots: a point's place in units is its dot's, but for the sign of Y.
var whole = scale(64, 1, 0, 0)

// units is a contour whose points lie at whole units, or, at the scale whole, at whole dots.
func units(c ...api.Point) []api.Point {
	for i := range c {
		c[i].X, c[i].Y = c[i].X*one, c[i].Y*one
	}
	return c
}

func equal(a, b [][]api.Dot) bool {
	return slices.EqualFunc(a, b, func(c, d []api.Dot) bool { return slices.Equal(c, d) })
}

func copyOf[T any](l [][]T) [][]T {
	var all [][]T
	for _, x := range l {
		all = append(all, append([]T{}, x...))
	}
	return all
}

// scales is some that may be.
func scales() []api.Scale {
	return []api.Scale{
		whole,
		scale(1000, 10, 0, 0),
		scale(1000, 10, 63, 1),
		scale(16, 1, 0, 0),
		scale(16, 2048, 5, 63),
		scale(16384, 1, 0, 63),
		scale(16384, 2048, 63, 63),
		scale(2048, 2047, 31, 32),
		scale(1001, 13, 7, 8),
		scale(17, 3, 0, 1),
	}
}

// wrongScales is such ones as may not be.
func wrongScales() []api.Scale {
	l := []api.Scale{{}, {Units: 1000}, {Ppem: 10}}
	for _, x := range []int{15, 16385, 0, -1, -16, -1000, math.MinInt, math.MaxInt, 1<<32 + 1000} {
		l = append(l, scale(x, 10, 0, 0))
	}
	for _, x := range []int{0, 2049, -1, -10, math.MinInt, math.MaxInt, 1<<32 + 10} {
		l = append(l, scale(1000, x, 0, 0))
	}
	for _, x := range []int{-1, 64, 65, math.MinInt, math.MaxInt, 1 << 32} {
		l = append(l, scale(1000, 10, x, 0), scale(1000, 10, 0, x), scale(1000, 10, x, x))
	}
	return l
}

// nearest is floor(a/b + 1/2) of a product and another one.
func nearest(a, b []int) int {
	product := func(l []int) *big.Int {
		p := big.NewInt(1)
		for _, x := range l {
			p.Mul(p, big.NewInt(int64(x)))
		}
		return p
	}
	two, n, d := big.NewInt(2), product(a), product(b)
	n.Add(n.Mul(n, two), d)
	return int(n.Div(n, d.Mul(d, two)).Int64()) // Div rounds down, d being above 0
}

// plainDot is the dot of a point as the chapter writes it down, and whether there is one.
func plainDot(s api.Scale, p api.Point) (api.Dot, bool) {
	if p.X < -far || p.X > far || p.Y < -far || p.Y > far {
		return api.Dot{}, false
	}
	d := dot(nearest([]int{p.X, s.Ppem, 64}, []int{65536, s.Units})+s.PhaseX, nearest([]int{-p.Y, s.Ppem, 64}, []int{65536, s.Units})+s.PhaseY)
	if d.X < -most || d.X > most || d.Y < -most || d.Y > most {
		return api.Dot{}, false
	}
	return d, true
}

// plainExplicit is a contour with all points in the middle, the first point on it ahead.
func plainExplicit(c []api.Point) []api.Point {
	var all []api.Point
	start := -1
	for i, p := range c {
		if p.Kind == api.PointOn && start < 0 {
			start = len(all)
		}
		all = append(all, p)
		next := c[(i+1)%len(c)]
		if p.Kind == api.PointQuad && next.Kind == api.PointQuad {
			half := func(a, b int) int { return int(math.Floor(float64(a+b) / 2)) }
			all = append(all, on(half(p.X, next.X), half(p.Y, next.Y)))
		}
	}
	if start < 0 {
		start = len(all) - 1
	}
	return append(slices.Clone(all[start:]), all[:start]...)
}

// plainFlat is an outline as closed lines, reckoned point by point, and what it is refused with, if its scale and itself may be.
func plainFlat(s api.Scale, o [][]api.Point) ([][]api.Dot, api.Errno) {
	var all [][]api.Dot
	count := 0
	for _, c := range o {
		var l, between []api.Dot
		x := plainExplicit(c)
		a, _ := plainDot(s, x[0])
		for _, p := range append(x[1:], x[0]) {
			d, there := plainDot(s, p)
			if !there {
				return nil, api.ErrOver
			}
			if p.Kind != api.PointOn {
				between = append(between, d)
				continue
			}
			bow := api.Bow{Kind: 1 + len(between), A: a, D: d}
			if len(between) > 0 {
				bow.B = between[0]
			}
			if len(between) > 1 {
				bow.C = between[1]
			}
			n := curve.Pieces(bow)
			for i := 1; i <= n; i++ {
				place, _ := curve.At(bow, i, n)
				l = append(l, place)
			}
			a, between = d, nil
		}
		all, count = append(all, l), count+len(l)
	}
	if count > 65536 {
		return nil, api.ErrLong
	}
	return all, api.OK
}

func TestExamples(t *testing.T) {
	s := scale(1000, 10, 0, 0)
	if d, e := flatten.Dot(s, on(500*one, 1000*one)); d != dot(320, -640) || e != api.OK {
		t.Error(d, e)
	}
	if n, e := flatten.Advance(s, 500); n != 320 || e != api.OK {
		t.Error(n, e)
	}
}

func TestDot(t *testing.T) {
	for _, c := range []struct {
		s    api.Scale
		p    api.Point
		want api.Dot
	}{
		{whole, on(5*one, 7*one), dot(5, -7)},
		{whole, on(-5*one, -7*one), dot(-5, 7)},
		{whole, on(0, 0), dot(0, 0)},
		{scale(64, 1, 63, 1), on(0, 0), dot(63, 1)},
		{scale(64, 1, 3, 9), on(5*one, 7*one), dot(8, 2)},
		// of two that are as near the greater one, of Y behind its sign
		{whole, on(one/2, one/2), dot(1, 0)},
		{whole, on(-one/2, -one/2), dot(0, 1)},
		{whole, on(one/2-1, one/2-1), dot(0, 0)},
		{whole, on(-one/2-1, -one/2-1), dot(-1, 1)},
		{whole, on(one/2+1, one/2+1), dot(1, -1)},
		{whole, on(3*one/2, 3*one/2), dot(2, -1)},
		{scale(16, 1, 0, 0), on(one/8, -one/8), dot(1, 1)},
		// phases are put on behind the rounding
		{scale(64, 1, 1, 1), on(-one/2, one/2), dot(1, 1)},
		{scale(16384, 1, 0, 0), on(far, far), dot(128, -128)},
		{scale(16384, 1, 0, 0), on(-far, -far), dot(-128, 128)},
		{scale(16384, 2048, 0, 0), on(one, one), dot(8, -8)},
		{scale(16, 2048, 0, 0), on(1, 8), dot(0, -1)},
	} {
		if d, e := flatten.Dot(c.s, c.p); d != c.want || e != api.OK {
			t.Error(c.s, c.p, d, e, c.want)
		}
	}
}

// TestDotsOfAll holds places of all sizes against the chapter's words; kinds are not looked at.
func TestDotsOfAll(t *testing.T) {
	numbers := []int{0, 1, 2, 3, 4, 5, 4095, 4096, one/2 - 1, one / 2, one/2 + 1, one, 1000*one + 77, 128 * one, 128*one + 3, 128*one + 4, 32768 * one, far - 1, far, far + 1, 1 << 40, math.MaxInt}
	for _, x := range numbers {
		numbers = append(numbers, -x)
	}
	numbers = append(numbers, math.MinInt)
	draw := rand.New(rand.NewSource(21))
	for range 100 {
		numbers = append(numbers, draw.Intn(1<<draw.Intn(33)+1)-draw.Intn(1<<draw.Intn(33)+1))
	}
	kinds := []int{api.PointOn, api.PointQuad, api.PointCubic, 0, 4, -1, math.MinInt, math.MaxInt}
	there := 0
	for _, s := range scales() {
		for i, x := range numbers {
			for _, y := range []int{0, numbers[len(numbers)-1-i], 555} {
				for _, p := range []api.Point{{X: x, Y: y, Kind: kinds[i%len(kinds)]}, {X: y, Y: x}} {
					want, may := plainDot(s, p)
					d, e := flatten.Dot(s, p)
					if d != want || may != (e == api.OK) || !may && e != api.ErrOver {
						t.Fatal(s, p, d, e, want, may)
					}
					if may {
						there++
					}
				}
			}
		}
	}
	if there < 2000 {
		t.Error(there)
	}
}

// TestFurthestDots: at 8192 dots a unit, 128 units are MaxDot; phases count.
func TestFurthestDots(t *testing.T) {
	const x = 128 * one
	for _, c := range []struct {
		phase, x int
		may      bool
	}{
		{0, x, true}, {0, x + 3, true}, {0, x + 4, false}, {1, x, false}, {1, x - 4, false}, {1, x - 5, true},
		{0, -x, true}, {0, -x - 4, true}, {0, -x - 5, false}, {1, -x - 12, true}, {1, -x - 13, false},
		{63, x - 63*8, true}, {63, x - 63*8 + 4, false}, {63, -x - 63*8 - 4, true}, {63, -x - 63*8 - 5, false},
	} {
		d, e := flatten.Dot(scale(16, 2048, c.phase, 0), on(c.x, 0))
		if c.may != (e == api.OK) || !c.may && (e != api.ErrOver || d != (api.Dot{})) {
			t.Error(c, d, e)
		}
		o := [][]api.Point{{on(0, 0), on(c.x, 0)}}
		l, e := flatten.Flatten(scale(16, 2048, c.phase, 0), o)
		if c.may != (e == api.OK) || !c.may && (e != api.ErrOver || l != nil) {
			t.Error(c, l, e)
		}
		// What is rounded is -Y, so that it is bounded just as X is.
		y := -c.x
		d, e = flatten.Dot(scale(16, 2048, 0, c.phase), on(0, y))
		if c.may != (e == api.OK) || !c.may && (e != api.ErrOver || d != (api.Dot{})) {
			t.Error("Y", c, d, e)
		}
	}
}

// TestScales: each field of a scale at its bounds and beyond, in each call, whatever else is wrong.
func TestScales(t *testing.T) {
	for _, s := range append(scales(), scale(16, 1, 63, 63), scale(16384, 2048, 0, 0)) {
		if _, e := flatten.Dot(s, on(0, 0)); e != api.OK {
			t.Error(s, e)
		}
		if _, e := flatten.Flatten(s, [][]api.Point{{on(0, 0)}}); e != api.OK {
			t.Error(s, e)
		}
		if _, e := flatten.Advance(s, 1); e != api.OK {
			t.Error(s, e)
		}
	}
	for _, s := range wrongScales() {
		for _, p := range []api.Point{{}, on(one, one), on(far+1, 0), on(0, math.MinInt)} {
			if d, e := flatten.Dot(s, p); d != (api.Dot{}) || e != api.ErrPpem {
				t.Error(s, p, d, e)
			}
			for _, o := range [][][]api.Point{nil, {{p}}, {{}}, {{p}, {on(0, 0), cubic(1, 1)}}, make([][]api.Point, 257)} {
				if l, e := flatten.Flatten(s, o); len(l) != 0 || e != api.ErrPpem {
					t.Error(s, o, l, e)
				}
			}
		}
		for _, x := range []int{0, 1000, 1<<16 + 1, math.MinInt} {
			if n, e := flatten.Advance(s, x); n != 0 || e != api.ErrPpem {
				t.Error(s, x, n, e)
			}
		}
	}
}

func TestAdvance(t *testing.T) {
	for _, c := range []struct {
		s           api.Scale
		units, want int
	}{
		{scale(1000, 10, 0, 0), 500, 320}, {scale(1000, 10, 63, 63), 500, 320}, {scale(1000, 10, 0, 0), -500, -320},
		{scale(1000, 10, 0, 0), 0, 0}, {scale(128, 1, 0, 0), 1, 1}, {scale(128, 1, 0, 0), -1, 0}, {scale(128, 1, 0, 0), 3, 2}, {scale(128, 1, 0, 0), -3, -1},
		{scale(16, 2048, 0, 0), 65536, 1 << 29}, {scale(16, 2048, 0, 0), -65536, -1 << 29}, {scale(16384, 1, 0, 0), 65536, 256}, {scale(16384, 1, 9, 9), 127, 0}, {scale(16384, 1, 9, 9), 128, 1},
	} {
		if n, e := flatten.Advance(c.s, c.units); n != c.want || e != api.OK {
			t.Error(c, n, e)
		}
	}
	for _, s := range scales() {
		for _, x := range []int{0, 1, -1, 2, 77, -77, 499, 500, -501, 1024, 16384, -32768, 65535, -65535, 65536, -65536} {
			if n, e := flatten.Advance(s, x); e != api.OK || n != nearest([]int{x, s.Ppem, 64}, []int{s.Units}) {
				t.Error(s, x, n, e)
			}
		}
		for _, x := range []int{65537, -65537, far, -far, 1 << 32, -1 << 32, 1<<32 + 5, math.MinInt, math.MaxInt} {
			if n, e := flatten.Advance(s, x); n != 0 || e != api.ErrOver {
				t.Error(s, x, n, e)
			}
		}
	}
}

// TestFlattenInFull tells what becomes of contours, dot by dot.
func TestFlattenInFull(t *testing.T) {
	for _, c := range []struct {
		o    [][]api.Point
		want [][]api.Dot
	}{
		{nil, nil},
		{[][]api.Point{units(on(1, 2))}, [][]api.Dot{{dot(1, -2)}}},
		{[][]api.Point{units(quad(1, 2))}, [][]api.Dot{{dot(1, -2)}}},
		// begins behind its first point, and ends with it
		{[][]api.Point{units(on(0, 0), on(10, 0), on(0, 20))}, [][]api.Dot{{dot(10, 0), dot(0, -20), dot(0, 0)}}},
		{[][]api.Point{units(on(0, 0), on(10, 0)), units(on(3, 3))}, [][]api.Dot{{dot(10, 0), dot(0, 0)}, {dot(3, -3)}}},
		// the bow of chapter 20's example
		{[][]api.Point{units(on(0, 0), quad(64, 0), on(64, -64))}, [][]api.Dot{{dot(36, 7), dot(57, 28), dot(64, 64), dot(0, 0)}}},
		// begins behind the first point that is on it
		{[][]api.Point{units(quad(64, 0), on(64, -64), on(0, 0))}, [][]api.Dot{{dot(0, 0), dot(36, 7), dot(57, 28), dot(64, 64)}}},
		// one of quads alone, behind the middle of the last and the first: 4 bows that bend by 2 each
		{[][]api.Point{units(quad(0, 0), quad(4, 0), quad(4, 4), quad(0, 4))}, [][]api.Dot{{dot(2, 0), dot(4, -2), dot(2, -4), dot(0, -2)}}},
		{[][]api.Point{units(on(0, 0), cubic(0, 8), cubic(8, 8), on(8, 0))}, [][]api.Dot{{dot(4, -6), dot(8, 0), dot(0, 0)}}},
		// all dots stay, also where two that follow one another are the same
		{[][]api.Point{units(on(5, 5), on(5, 5), on(5, 5))}, [][]api.Dot{{dot(5, -5), dot(5, -5), dot(5, -5)}}},
		// the dot of a middle is that of the point in the middle, not a middle of dots, rounded down (of 1 and 2), or up (of 2 and 3)
		{[][]api.Point{{on(0, 0), quad(one*14/10, 0), quad(one*24/10, 0)}}, [][]api.Dot{{dot(2, 0), dot(0, 0)}}},
		{[][]api.Point{{on(0, 0), quad(one*16/10, 0), quad(one*26/10, 0)}}, [][]api.Dot{{dot(2, 0), dot(0, 0)}}},
	} {
		if l, e := flatten.Flatten(whole, c.o); e != api.OK || !equal(l, c.want) {
			t.Error(c.o, l, e, c.want)
		}
	}
	// a size of 10 and phases
	l, e := flatten.Flatten(scale(1000, 10, 3, 60), [][]api.Point{units(on(0, 0), on(500, 1000))})
	if e != api.OK || !equal(l, [][]api.Dot{{dot(323, -580), dot(3, 60)}}) {
		t.Error(l, e)
	}
}

// contoursOf goes over contours of all kinds of points, of up to n.
func contoursOf(n int, do func([]api.Point)) {
	var next func(c []api.Point)
	next = func(c []api.Point) {
		if outline.Check([][]api.Point{c}) == api.OK {
			do(c)
		}
		if i := len(c); i < n {
			for kind := api.PointOn; kind <= api.PointCubic; kind++ {
				next(append(slices.Clone(c), api.Point{X: (300*i*i - 700*i - 20) * 700, Y: (90*i*i*i - 400*i + 11) * 1001, Kind: kind}))
			}
		}
	}
	next(nil)
}

// drawn is an outline of drawn points that may be.
func drawn(draw *rand.Rand, far int) [][]api.Point {
	var o [][]api.Point
	place := func(kind int) api.Point {
		return api.Point{X: draw.Intn(2*far+1) - far, Y: draw.Intn(2*far+1) - far, Kind: kind}
	}
	for range draw.Intn(5) {
		c := []api.Point{place(api.PointQuad)}
		for range draw.Intn(6) {
			switch draw.Intn(3) {
			case 0:
				c = append(c, place(api.PointOn))
			case 1:
				c = append(c, place(api.PointOn), place(api.PointCubic), place(api.PointCubic), place(api.PointOn))
			case 2:
				c = append(c, place(api.PointQuad))
			}
		}
		at := draw.Intn(len(c))
		o = append(o, append(slices.Clone(c[at:]), c[:at]...))
	}
	return o
}

// TestFlatten holds contours of all kinds, and drawn outlines, against a plain reckoning.
func TestFlatten(t *testing.T) {
	told := map[api.Errno]int{}
	check := func(s api.Scale, o [][]api.Point) {
		t.Helper()
		want, refused := plainFlat(s, o)
		l, e := flatten.Flatten(s, o)
		told[e]++
		if e != refused || !equal(l, want) {
			t.Fatal(s, o, l, e, want, refused)
		}
		if e == api.OK && flatten.May(l) != api.OK {
			t.Fatal(s, o, "may not be")
		}
	}
	contoursOf(6, func(c []api.Point) {
		for _, s := range scales() {
			check(s, [][]api.Point{c})
			check(s, [][]api.Point{{quad(one, one), on(5, 5)}, c, {on(2*one, 3*one)}})
		}
	})
	draw := rand.New(rand.NewSource(211))
	for i := range 3000 {
		check(scales()[i%len(scales())], drawn(draw, 1<<draw.Intn(32)))
	}
	if told[api.OK] < 5000 || told[api.ErrOver] < 200 {
		t.Error(told)
	}
}

// TestFlattenRefuses: what the outline is refused with comes ahead of dots that there are not, and these ahead of too many.
func TestFlattenRefuses(t *testing.T) {
	s := scale(16, 2048, 0, 0)
	beyond := on(far, 0) // may be, and has no dot
	row := func(p api.Point, n int) []api.Point { return slices.Repeat([]api.Point{p}, n) }
	long := slices.Repeat([]api.Point{quad(0, 0), quad(100*one, 0)}, 2048) // 4096 bows of many dots
	for name, c := range map[string]struct {
		o    [][]api.Point
		want api.Errno
	}{
		"contours":                   {slices.Repeat([][]api.Point{{on(0, 0)}}, 257), api.ErrPoints},
		"contours beyond":            {slices.Repeat([][]api.Point{{beyond}}, 257), api.ErrPoints},
		"contours, empty":            {make([][]api.Point, 257), api.ErrPoints},
		"points":                     {[][]api.Point{row(beyond, 4097)}, api.ErrPoints},
		"points in all":              {[][]api.Point{row(on(0, 0), 4096), {on(0, 0)}}, api.ErrPoints},
		"an empty contour":           {[][]api.Point{{beyond}, {}}, api.ErrOutline},
		"no kind":                    {[][]api.Point{{beyond}, {{}}}, api.ErrOutline},
		"one cubic":                  {[][]api.Point{long[:4000], {on(0, 0), cubic(0, 0)}}, api.ErrOutline},
		"a point that may not be":    {[][]api.Point{{on(far+1, 0)}}, api.ErrOutline},
		"beyond":                     {[][]api.Point{{beyond}}, api.ErrOver},
		"beyond behind":              {[][]api.Point{{on(0, 0)}, {on(0, 0), beyond}}, api.ErrOver},
		"beyond, a quad":             {[][]api.Point{{on(0, 0), quad(0, -far)}}, api.ErrOver},
		"beyond, the first cubic":    {[][]api.Point{{on(0, 0), cubic(0, -far), cubic(0, 0)}}, api.ErrOver},
		"beyond, the second cubic":   {[][]api.Point{{on(0, 0), cubic(0, 0), cubic(-far, 0)}}, api.ErrOver},
		"beyond, one alone":          {[][]api.Point{{quad(-far, 0)}}, api.ErrOver},
		"beyond, a middle that is":   {[][]api.Point{{quad(-far, 0), quad(far, 0)}}, api.ErrOver},
		"too many":                   {[][]api.Point{long}, api.ErrLong},
		"too many, and beyond":       {[][]api.Point{long[:4000], {beyond}}, api.ErrOver},
		"too many ahead of a point":  {[][]api.Point{long[:4000], {on(0, 0)}}, api.ErrLong},
		"too many behind all others": {[][]api.Point{{on(0, 0)}, long[:4000]}, api.ErrLong},
	} {
		if l, e := flatten.Flatten(s, c.o); len(l) != 0 || e != c.want {
			t.Error(name, len(l), e, c.want)
		}
	}
}

// TestMostDots: 256 contours of 256 dots each; then one more.
func TestMostDots(t *testing.T) {
	s := scale(16, 2048, 0, 0)
	wide := []api.Point{on(0, 0), quad(100*one, 0)}
	o := slices.Repeat([][]api.Point{wide}, 256)
	l, e := flatten.Flatten(s, o)
	n := 0
	for _, x := range l {
		n += len(x)
	}
	if e != api.OK || len(l) != 256 || n != api.MaxDots || flatten.May(l) != api.OK {
		t.Error(len(l), n, e)
	}
	if want, _ := plainFlat(s, o); !equal(l, want) {
		t.Error("are other dots")
	}
	o[77] = append(slices.Clone(wide), on(0, 0))
	if l, e := flatten.Flatten(s, o); len(l) != 0 || e != api.ErrLong {
		t.Error(len(l), e)
	}
	o[77] = []api.Point{on(0, 0)}
	if l, e := flatten.Flatten(s, o); len(l) != 256 || e != api.OK {
		t.Error(len(l), e)
	}
}

// all is what is asked of closed lines, at once.
type all struct {
	may  api.Errno
	box  api.Box
	area int
	flat [][]api.Dot
}

// ask asks all, and moves by dx and dy; those calls are refused alike.
func ask(t *testing.T, l [][]api.Dot, dx, dy int) all {
	t.Helper()
	may := flatten.May(l)
	box, e := flatten.Box(l)
	area, e2 := flatten.Area(l)
	flat, e3 := flatten.Move(l, dx, dy)
	if e != may || e2 != may || may != api.OK && (e3 != may || box != (api.Box{}) || area != 0 || len(flat) != 0) {
		t.Error(len(l), may, box, e, area, e2, len(flat), e3)
	}
	return all{may, box, area, flat}
}

func TestMay(t *testing.T) {
	row := func(n int) []api.Dot { return slices.Repeat([]api.Dot{dot(1, -1)}, n) }
	for name, c := range map[string]struct {
		l    [][]api.Dot
		want api.Errno
	}{
		"nil":              {nil, api.OK},
		"no lists":         {[][]api.Dot{}, api.OK},
		"empty lists":      {make([][]api.Dot, 70000), api.OK},
		"one":              {[][]api.Dot{row(1)}, api.OK},
		"most":             {[][]api.Dot{row(65536)}, api.OK},
		"most in all":      {[][]api.Dot{row(65000), nil, row(536)}, api.OK},
		"most, one by one": {slices.Repeat([][]api.Dot{row(1)}, 65536), api.OK},
		"more":             {[][]api.Dot{row(65537)}, api.ErrLong},
		"more in all":      {[][]api.Dot{row(65000), nil, row(537)}, api.ErrLong},
		"more, one by one": {slices.Repeat([][]api.Dot{row(1)}, 65537), api.ErrLong},
		"more and over":    {[][]api.Dot{{dot(most+1, 0)}, row(65536)}, api.ErrLong},
		"over and more":    {[][]api.Dot{row(65536), {dot(most+1, 0)}}, api.ErrLong},
		"over and most":    {[][]api.Dot{row(65535), {dot(most+1, 0)}}, api.ErrOver},
	} {
		if have := ask(t, c.l, 0, 0); have.may != c.want {
			t.Error(name, have.may, c.want)
		}
	}
	for _, x := range []int{most, -most, most + 1, -most - 1, far, -far, 1 << 32, -1 << 32, 1<<32 + 5, math.MinInt, math.MaxInt, 0} {
		want := api.OK
		if x < -most || x > most {
			want = api.ErrOver
		}
		for _, l := range [][][]api.Dot{
			{{dot(x, 0)}}, {{dot(0, x)}}, {{dot(0, 0), dot(x, 0)}}, {{dot(0, 0), dot(0, x)}, {dot(1, 1)}}, {nil, {dot(0, 0)}, {dot(0, 0), dot(0, 0), dot(5, x)}},
		} {
			if have := ask(t, l, 0, 0); have.may != want {
				t.Error(l, have.may, want)
			}
		}
	}
}

func TestBox(t *testing.T) {
	for _, c := range []struct {
		l    [][]api.Dot
		want api.Box
	}{
		{nil, api.Box{}},
		{[][]api.Dot{{}, nil}, api.Box{}},
		{[][]api.Dot{{dot(0, 0), dot(64, 0), dot(64, 64), dot(0, 64)}}, api.Box{X1: 1, Y1: 1}},
		{[][]api.Dot{{dot(0, 0), dot(65, 0), dot(64, 65)}}, api.Box{X1: 2, Y1: 2}},
		{[][]api.Dot{{dot(-1, -1), dot(64, 64)}}, api.Box{X0: -1, Y0: -1, X1: 1, Y1: 1}},
		{[][]api.Dot{{dot(-64, -65), dot(-63, -63)}}, api.Box{X0: -1, Y0: -2, X1: 0, Y1: 0}},
		{[][]api.Dot{{dot(70, 70)}, {}, {dot(300, -5)}, {dot(-200, 2)}}, api.Box{X0: -4, Y0: -1, X1: 5, Y1: 2}},
		// one dot within a pixel lies in it; one at an edge in none
		{[][]api.Dot{{dot(1, 1)}}, api.Box{X1: 1, Y1: 1}},
		{[][]api.Dot{{dot(100, -100)}}, api.Box{X0: 1, Y0: -2, X1: 2, Y1: -1}},
		{[][]api.Dot{{dot(0, 0)}}, api.Box{}},
		{[][]api.Dot{{dot(64, 1)}}, api.Box{}},
		{[][]api.Dot{{dot(1, 64)}}, api.Box{}},
		{[][]api.Dot{{dot(640, 640)}}, api.Box{}},
		{[][]api.Dot{{dot(0, 64), dot(640, 64)}}, api.Box{}},
		{[][]api.Dot{{dot(-64, 5), dot(-64, 640)}}, api.Box{}},
		{[][]api.Dot{{dot(5, 0), dot(5, 640)}}, api.Box{X1: 1, Y1: 10}},
		{[][]api.Dot{{dot(0, 5), dot(640, 5)}}, api.Box{X1: 10, Y1: 1}},
		{[][]api.Dot{{dot(-most, -most), dot(most, most)}}, api.Box{X0: -1 << 14, Y0: -1 << 14, X1: 1 << 14, Y1: 1 << 14}},
	} {
		if b, e := flatten.Box(c.l); b != c.want || e != api.OK {
			t.Error(c.l, b, e, c.want)
		}
	}
}

// plainBox is the pixels of one line after another.
func plainBox(l [][]api.Dot) api.Box {
	floor := func(x int) int { return int(math.Floor(float64(x) / 64)) }
	ceil := func(x int) int { return int(math.Ceil(float64(x) / 64)) }
	b := api.Box{X0: math.MaxInt, Y0: math.MaxInt, X1: math.MinInt, Y1: math.MinInt}
	for _, line := range l {
		for _, d := range line {
			b = api.Box{X0: min(b.X0, floor(d.X)), Y0: min(b.Y0, floor(d.Y)), X1: max(b.X1, ceil(d.X)), Y1: max(b.Y1, ceil(d.Y))}
		}
	}
	if b.X0 >= b.X1 || b.Y0 >= b.Y1 {
		return api.Box{}
	}
	return b
}

// plainArea is twice the area, of numbers of any size.
func plainArea(l [][]api.Dot) int {
	sum := new(big.Int)
	product := func(a, b int) *big.Int { return new(big.Int).Mul(big.NewInt(int64(a)), big.NewInt(int64(b))) }
	for _, line := range l {
		for i := range line {
			a, d := line[i], line[0]
			if i+1 < len(line) {
				d = line[i+1]
			}
			sum.Add(sum, product(a.X, d.Y))
			sum.Sub(sum, product(d.X, a.Y))
		}
	}
	return int(sum.Int64())
}

func TestArea(t *testing.T) {
	square := []api.Dot{dot(0, 0), dot(64, 0), dot(64, 64), dot(0, 64)}
	turned := slices.Clone(square)
	slices.Reverse(turned)
	var zigzag []api.Dot
	for range 16384 {
		zigzag = append(zigzag, dot(-most, -most), dot(most, -most), dot(most, most), dot(-most, most))
	}
	for name, c := range map[string]struct {
		l    [][]api.Dot
		want int
	}{
		"nil":                {nil, 0},
		"empty":              {[][]api.Dot{{}, {}}, 0},
		"one":                {[][]api.Dot{{dot(5, 7)}}, 0},
		"two":                {[][]api.Dot{{dot(5, 7), dot(-9, 8)}}, 0},
		"a square":           {[][]api.Dot{square}, 2 * 64 * 64},
		"turned":             {[][]api.Dot{turned}, -2 * 64 * 64},
		"both":               {[][]api.Dot{square, turned}, 0},
		"twice":              {[][]api.Dot{square, nil, square}, 4 * 64 * 64},
		"a triangle":         {[][]api.Dot{{dot(1, 1), dot(4, 1), dot(1, 3)}}, 6},
		"the greatest there": {[][]api.Dot{zigzag}, 16384 * 2 << 42},
	} {
		if n, e := flatten.Area(c.l); n != c.want || e != api.OK {
			t.Error(name, n, e, c.want)
		}
	}
}

func TestMove(t *testing.T) {
	for _, c := range []struct {
		l      [][]api.Dot
		dx, dy int
		want   [][]api.Dot
		e      api.Errno
	}{
		{nil, 5, 6, nil, api.OK},
		{nil, math.MaxInt, math.MinInt, nil, api.OK},
		{[][]api.Dot{{}, {}}, math.MinInt, 0, [][]api.Dot{nil, nil}, api.OK},
		{[][]api.Dot{{dot(1, 2), dot(3, 4)}, {}, {dot(5, 6)}}, 10, -20, [][]api.Dot{{dot(11, -18), dot(13, -16)}, {}, {dot(15, -14)}}, api.OK},
		{[][]api.Dot{{dot(-most, most)}}, 2 * most, -2 * most, [][]api.Dot{{dot(most, -most)}}, api.OK},
		{[][]api.Dot{{dot(-most, most)}}, 2*most + 1, 0, nil, api.ErrOver},
		{[][]api.Dot{{dot(-most, most)}}, 0, -2*most - 1, nil, api.ErrOver},
		{[][]api.Dot{{dot(-most, most)}}, -1, 0, nil, api.ErrOver},
		{[][]api.Dot{{dot(-most, most)}}, 0, 1, nil, api.ErrOver},
		{[][]api.Dot{{dot(0, 0)}, {dot(5, 0)}}, most - 5, 0, [][]api.Dot{{dot(most-5, 0)}, {dot(most, 0)}}, api.OK},
		{[][]api.Dot{{dot(0, 0)}, {dot(5, 0)}}, most - 4, 0, nil, api.ErrOver},
		{[][]api.Dot{{dot(0, 0)}, {dot(5, 0)}}, 0, most, [][]api.Dot{{dot(0, most)}, {dot(5, most)}}, api.OK},
		{[][]api.Dot{{dot(0, 0)}, {dot(5, 0)}}, 0, most + 1, nil, api.ErrOver},
		{[][]api.Dot{{dot(most, most)}}, math.MaxInt, 0, nil, api.ErrOver},
		{[][]api.Dot{{dot(-most, most)}}, 0, math.MaxInt, nil, api.ErrOver},
		{[][]api.Dot{{dot(-most, -most)}}, math.MinInt, 0, nil, api.ErrOver},
		{[][]api.Dot{{dot(-most, -most)}}, 0, math.MinInt, nil, api.ErrOver},
		{[][]api.Dot{{dot(7, 7)}}, 1 << 32, 0, nil, api.ErrOver},
		{[][]api.Dot{{dot(7, 7)}}, 0, -1 << 32, nil, api.ErrOver},
	} {
		if l, e := flatten.Move(c.l, c.dx, c.dy); e != c.e || !equal(l, c.want) {
			t.Error(c.l, c.dx, c.dy, l, e, c.want, c.e)
		}
	}
}

// lists is drawn closed lines.
func lists(draw *rand.Rand, far int) [][]api.Dot {
	var l [][]api.Dot
	for range draw.Intn(5) {
		var line []api.Dot
		for range draw.Intn(7) {
			line = append(line, dot(draw.Intn(2*far+1)-far, draw.Intn(2*far+1)-far))
		}
		l = append(l, line)
	}
	return l
}

// TestDrawnLines: boxes, areas and moved lines, held against a plain reckoning; moved, they have the same area, and their box moves by whole pixels.
func TestDrawnLines(t *testing.T) {
	draw := rand.New(rand.NewSource(213))
	moved := 0
	for range 5000 {
		l := lists(draw, 1<<draw.Intn(21))
		dx, dy := draw.Intn(4*most+1)-2*most, draw.Intn(4*most+1)-2*most
		if draw.Intn(2) == 0 {
			dx, dy = dx>>12<<6, dy>>12<<6
		}
		have := ask(t, l, dx, dy)
		if have.may != api.OK || have.box != plainBox(l) || have.area != plainArea(l) {
			t.Fatal(l, have)
		}
		want, may := copyOf(l), api.OK
		for _, line := range want {
			for i := range line {
				line[i] = dot(line[i].X+dx, line[i].Y+dy)
				if max(line[i].X, line[i].Y) > most || min(line[i].X, line[i].Y) < -most {
					may = api.ErrOver
				}
			}
		}
		if may != api.OK {
			want = nil
		}
		if x, e := flatten.Move(l, dx, dy); e != may || !equal(x, want) {
			t.Fatal(l, dx, dy, x, e, want, may)
		}
		if may != api.OK {
			continue
		}
		moved++
		there := ask(t, have.flat, -dx, -dy)
		if there.area != have.area || !equal(there.flat, l) {
			t.Fatal(l, dx, dy, there)
		}
		b := have.box
		if b != (api.Box{}) {
			b = api.Box{X0: b.X0 + dx/64, Y0: b.Y0 + dy/64, X1: b.X1 + dx/64, Y1: b.Y1 + dy/64}
		}
		if dx%64 == 0 && dy%64 == 0 && there.box != b {
			t.Fatal(l, dx, dy, there.box, b)
		}
	}
	if moved < 2000 || moved > 4900 {
		t.Error(moved)
	}
}

// TestListsAreTheirOwn changes all that is answered, spare room too, and looks at what was handed in; and the other way round.
func TestListsAreTheirOwn(t *testing.T) {
	points := func() [][]api.Point {
		var o [][]api.Point
		for _, c := range [][]api.Point{units(on(0, 0), quad(64, 0), on(64, 64)), units(quad(1, 1), quad(99, 99)), units(on(1, 2)), units(on(7, 7))} {
			o = append(o, append(slices.Clone(c), on(7, 7), quad(8, 8))[:len(c)])
		}
		return o
	}
	dots := func() [][]api.Dot {
		var l [][]api.Dot
		for _, c := range [][]api.Dot{{dot(0, 0), dot(64, 1), dot(5, 5)}, {dot(1, 1)}, {dot(2, 3), dot(4, 5)}, {dot(9, 9)}} {
			l = append(l, append(slices.Clone(c), dot(7, 7), dot(8, 8))[:len(c)])
		}
		return l
	}
	o, l := points(), dots()
	// room is what lies behind the ends too.
	rooms := func() ([][]api.Point, [][]api.Dot) {
		var a [][]api.Point
		var b [][]api.Dot
		for i := range 4 {
			a, b = append(a, o[i][:len(o[i])+2]), append(b, l[i][:len(l[i])+2])
		}
		return copyOf(a), copyOf(b)
	}
	wereO, wereL := rooms()
	unchanged := func(name string) {
		t.Helper()
		a, b := rooms()
		if !outline.Same(a, wereO) || !equal(b, wereL) {
			t.Error(name, "changes what is handed in")
		}
	}
	for name, call := range map[string]func() [][]api.Dot{
		"Flatten": func() [][]api.Dot { x, _ := flatten.Flatten(whole, o[:3]); return x },
		"Move":    func() [][]api.Dot { x, _ := flatten.Move(l[:3], 3, 4); return x },
		"by 0":    func() [][]api.Dot { x, _ := flatten.Move(l[:3], 0, 0); return x },
	} {
		x := call()
		unchanged(name)
		want := copyOf(x)
		if len(x) != 3 || !equal(call(), want) {
			t.Error(name, x)
		}
		for i := range x {
			_ = append(x[i], dot(66, 66))
			x[i][0].X++
			want[i][0].X++
			if !equal(x, want) {
				t.Error(name, "answers lists that share")
			}
		}
		for _, line := range x[:cap(x)] {
			clear(line[:cap(line)])
		}
		clear(x[:cap(x)])
		unchanged(name)
	}
	ask(t, l[:3], 5, most)
	flatten.Move(l[:3], 0, most)
	unchanged("a question")
	flat, _ := flatten.Flatten(whole, o[:3])
	moved, _ := flatten.Move(l[:3], 1, 1)
	wantFlat, wantMoved := copyOf(flat), copyOf(moved)
	for i := range 4 {
		clear(o[i])
		clear(l[i])
	}
	if !equal(flat, wantFlat) || !equal(moved, wantMoved) {
		t.Error("what is handed in is kept")
	}
}

// TestAtOnce: what is answered does not hang on who else asks.
func TestAtOnce(t *testing.T) {
	o := drawn(rand.New(rand.NewSource(5)), 1<<22)
	want, _ := flatten.Flatten(whole, o)
	box, _ := flatten.Box(want)
	var wait sync.WaitGroup
	for range 8 {
		wait.Go(func() {
			l, e := flatten.Flatten(whole, o)
			b, e2 := flatten.Box(want)
			if e != api.OK || e2 != api.OK || !equal(l, want) || b != box {
				t.Error(e, e2, b)
			}
		})
	}
	wait.Wait()
}
