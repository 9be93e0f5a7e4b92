package outline_test

import (
	"math"
	"math/rand"
	"regexp"
	"slices"
	"strings"
	"testing"

	"serif/affine"
	"serif/api"
	"serif/outline"
)

const most, least = api.MaxFixed, -api.MaxFixed

// on, quad and cubic are points of each kind.
func on(x, y int) api.Point    { return api.Point{X: x, Y: y, Kind: api.PointOn} }
func quad(x, y int) api.Point  { return api.Point{X: x, Y: y, Kind: api.PointQuad} }
func cubic(x, y int) api.Point { return api.Point{X: x, Y: y, Kind: api.PointCubic} }

// ofKinds is a contour of points that are all other ones.
func ofKinds(kinds ...int) []api.Point {
	var c []api.Point
	for i, kind := range kinds {
		c = append(c, api.Point{X: 10*i*i - 7*i - 20, Y: 3*i*i*i - 40*i + 11, Kind: kind})
	}
	return c
}

// contours is n contours of one point each.
func contours(n int) [][]api.Point {
	var o [][]api.Point
	for i := range n {
		o = append(o, []api.Point{on(i, -i)})
	}
	return o
}

// row is a contour of n points of a kind.
func row(n, kind int) []api.Point { return slices.Repeat([]api.Point{{X: 5, Y: 7, Kind: kind}}, n) }

// allKinds goes over all lists of kinds, of up to n points.
func allKinds(n int, do func(kinds []int)) {
	var next func(kinds []int)
	next = func(kinds []int) {
		if len(kinds) > 0 {
			do(kinds)
		}
		if len(kinds) == n {
			return
		}
		for kind := api.PointOn; kind <= api.PointCubic; kind++ {
			next(append(slices.Clone(kinds), kind))
		}
	}
	next(nil)
}

// kindsMay tells plainly whether these are the kinds of a contour: from a point on it on, to the next one, stand quads, or two cubics; or all are quads.
func kindsMay(kinds []int) bool {
	text := ""
	for _, kind := range kinds {
		text += string("?123?"[kind])
	}
	start := max(strings.Index(text, "1"), 0)
	return regexp.MustCompile("^((1(2*|33))+|2+)$").MatchString(text[start:] + text[:start])
}

// explicitPlainly is a contour with all points in the middle, from the one on that the chapter says.
func explicitPlainly(c []api.Point) []api.Point {
	var all []api.Point
	start := -1
	for i, p := range c {
		if p.Kind == api.PointOn && start < 0 {
			start = len(all)
		}
		all = append(all, p)
		next := c[0]
		if i+1 < len(c) {
			next = c[i+1]
		}
		if p.Kind == api.PointQuad && next.Kind == api.PointQuad {
			half := func(a, b int) int { return int(math.Floor(float64(a+b) / 2)) }
			all = append(all, on(half(p.X, next.X), half(p.Y, next.Y)))
		}
	}
	if start < 0 {
		start = len(all) - 1
	}
	return append(slices.Clone(all[start:]), all[:start]...)
}

// curvesPlainly is the curves of an explicit contour: the points between two that are on it.
func curvesPlainly(c []api.Point) []api.Curve {
	var l []api.Curve
	var between []api.Point
	a := c[0]
	for _, p := range append(slices.Clone(c[1:]), c[0]) {
		if p.Kind != api.PointOn {
			between = append(between, p)
			continue
		}
		curve := api.Curve{Kind: 1 + len(between), A: a, D: p}
		if len(between) > 0 {
			curve.B = between[0]
		}
		if len(between) > 1 {
			curve.C = between[1]
		}
		l, a, between = append(l, curve), p, nil
	}
	return l
}

// samples is outlines that may be.
func samples() [][][]api.Point {
	return [][][]api.Point{
		nil,
		{},
		{ofKinds(1)},
		{ofKinds(2)},
		{ofKinds(1, 1, 1)},
		{ofKinds(2, 2, 2, 2)},
		{ofKinds(1, 2, 2, 1, 3, 3)},
		{ofKinds(3, 1, 2, 1, 2, 2, 1, 3)},
		{ofKinds(2, 1), ofKinds(3, 3, 1), ofKinds(2, 2), ofKinds(1), ofKinds(1, 3, 3, 1, 3, 3)},
		contours(api.MaxContours),
		{row(api.MaxPoints, api.PointQuad)},
		{row(1000, api.PointOn), row(3000, api.PointQuad), row(96, api.PointOn)},
	}
}

// wrong is outlines that may not be, and what they are refused with.
func wrong() map[string]struct {
	o [][]api.Point
	e api.Errno
} {
	type w = struct {
		o [][]api.Point
		e api.Errno
	}
	return map[string]w{
		"contours":               {contours(api.MaxContours + 1), api.ErrPoints},
		"contours, empty":        {make([][]api.Point, api.MaxContours+1), api.ErrPoints},
		"points":                 {[][]api.Point{row(api.MaxPoints+1, 1)}, api.ErrPoints},
		"points in all":          {[][]api.Point{row(4000, 1), row(97, 2)}, api.ErrPoints},
		"points of no kind":      {[][]api.Point{make([]api.Point, api.MaxPoints+1)}, api.ErrPoints},
		"empty and too many":     {[][]api.Point{{}, row(api.MaxPoints+1, 1)}, api.ErrPoints},
		"empty":                  {[][]api.Point{{}}, api.ErrOutline},
		"nil":                    {[][]api.Point{nil}, api.ErrOutline},
		"empty behind":           {[][]api.Point{{on(1, 1)}, {}}, api.ErrOutline},
		"empty ahead":            {[][]api.Point{{}, {on(1, 1)}}, api.ErrOutline},
		"kind 0":                 {[][]api.Point{{on(1, 1), {X: 1, Y: 1}}}, api.ErrOutline},
		"kind 4":                 {[][]api.Point{{{X: 1, Y: 1, Kind: 4}}}, api.ErrOutline},
		"X too great":            {[][]api.Point{{on(most+1, 0)}}, api.ErrOutline},
		"Y too small":            {[][]api.Point{{on(0, 0)}, {on(0, 0), quad(0, least-1)}}, api.ErrOutline},
		"one cubic":              {[][]api.Point{{on(0, 0), cubic(1, 1)}}, api.ErrOutline},
		"three cubics":           {[][]api.Point{{on(0, 0), cubic(1, 1), cubic(1, 2), cubic(1, 3)}}, api.ErrOutline},
		"a cubic beside a quad":  {[][]api.Point{{on(0, 0), cubic(1, 1), cubic(1, 2), quad(1, 3)}}, api.ErrOutline},
		"cubics alone":           {[][]api.Point{{cubic(1, 1), cubic(1, 2)}}, api.ErrOutline},
		"most contours, no kind": {append(contours(api.MaxContours-1), make([]api.Point, 3)), api.ErrOutline},
	}
}

// copyOf is an outline of its own.
func copyOf(o [][]api.Point) [][]api.Point {
	var l [][]api.Point
	for _, c := range o {
		l = append(l, append([]api.Point{}, c...))
	}
	return l
}

// equal tells whether two outlines are the same; nil and the empty list are.
func equal(a, b [][]api.Point) bool {
	return slices.EqualFunc(a, b, func(c, d []api.Point) bool { return slices.Equal(c, d) })
}

func TestExampleOfOutline(t *testing.T) {
	o := [][]api.Point{{quad(0, 0), quad(10, 0), quad(10, 10), quad(0, 10)}}
	want := [][]api.Point{{on(0, 5), quad(0, 0), on(5, 0), quad(10, 0), on(10, 5), quad(10, 10), on(5, 10), quad(0, 10)}}
	if x, e := outline.Explicit(o); e != api.OK || !equal(x, want) {
		t.Error(x, e)
	}
	curves := []api.Curve{
		{Kind: api.CurveQuad, A: on(0, 5), B: quad(0, 0), D: on(5, 0)},
		{Kind: api.CurveQuad, A: on(5, 0), B: quad(10, 0), D: on(10, 5)},
		{Kind: api.CurveQuad, A: on(10, 5), B: quad(10, 10), D: on(5, 10)},
		{Kind: api.CurveQuad, A: on(5, 10), B: quad(0, 10), D: on(0, 5)},
	}
	if l := slices.Collect(outline.Curves(o)); !slices.Equal(l, curves) {
		t.Error(l)
	}
}

func TestCheck(t *testing.T) {
	for i, o := range samples() {
		if e := outline.Check(o); e != api.OK {
			t.Error(i, e)
		}
	}
	for name, w := range wrong() {
		if e := outline.Check(w.o); e != w.e {
			t.Error(name, e, w.e)
		}
	}
}

// TestKinds checks contours of all kinds of points, alone and beside others.
func TestKinds(t *testing.T) {
	count := 0
	allKinds(8, func(kinds []int) {
		c, want := ofKinds(kinds...), api.ErrOutline
		if kindsMay(kinds) {
			want = api.OK
			count++
		}
		for _, o := range [][][]api.Point{{c}, {{on(1, 2)}, c}, {c, {quad(1, 2)}}} {
			if e := outline.Check(o); e != want {
				t.Fatal(kinds, e, want)
			}
		}
	})
	if count < 500 {
		t.Error(count)
	}
	for _, kind := range []int{0, 4, 5, -1, 1<<32 + 1, math.MinInt, math.MaxInt} {
		for n := 1; n <= 4; n++ {
			for i := range n {
				c := ofKinds(1, 2, 1, 1)[:n]
				c[i].Kind = kind
				if e := outline.Check([][]api.Point{c}); e != api.ErrOutline {
					t.Error(kind, n, i, e)
				}
			}
		}
	}
}

// TestPlaces checks X and Y of each point at the limits, and beyond.
func TestPlaces(t *testing.T) {
	for _, x := range []int{most, least, most - 1, least + 1, 0, most + 1, least - 1, 1<<62 + 1, math.MinInt, math.MaxInt} {
		want := api.OK
		if x < least || x > most {
			want = api.ErrOutline
		}
		for i := range 6 {
			o := [][]api.Point{ofKinds(1), ofKinds(1, 2, 2, 1, 3, 3)}
			o[1][i].X = x
			if e := outline.Check(o); e != want {
				t.Error("X", i, x, e)
			}
			o[1][i].X, o[1][i].Y = 0, x
			if e := outline.Check(o); e != want {
				t.Error("Y", i, x, e)
			}
		}
	}
}

func TestCount(t *testing.T) {
	for _, c := range []struct {
		o    [][]api.Point
		want int
	}{
		{nil, 0}, {[][]api.Point{}, 0}, {[][]api.Point{{}, nil}, 0},
		{[][]api.Point{{}, row(3, 1), nil, row(4, 9)}, 7},
		{contours(1000), 1000},
		{[][]api.Point{row(100000, 1), row(5, 1)}, 100005},
	} {
		if n := outline.Count(c.o); n != c.want {
			t.Error(n, c.want)
		}
	}
}

func TestSame(t *testing.T) {
	l := append(samples(), [][]api.Point{{}}, [][]api.Point{{}, {}}, [][]api.Point{ofKinds(1, 2)}, [][]api.Point{ofKinds(1), ofKinds(2)}, [][]api.Point{ofKinds(1, 2), {}}, [][]api.Point{{}, ofKinds(1, 2)}, [][]api.Point{{{X: 1, Kind: 9}}})
	for i, a := range l {
		for j, b := range l {
			want := i == j || i < 2 && j < 2
			if outline.Same(a, b) != want || outline.Same(copyOf(a), b) != want {
				t.Error(i, j, !want)
			}
		}
	}
	if !outline.Same([][]api.Point{nil, ofKinds(1)}, [][]api.Point{{}, ofKinds(1)}) {
		t.Error("nil is not the empty list")
	}
	// Each number of each point.
	o := [][]api.Point{ofKinds(1, 2), ofKinds(1, 3, 3)}
	for i, c := range o {
		for j := range c {
			for _, change := range []func(p *api.Point){func(p *api.Point) { p.X++ }, func(p *api.Point) { p.Y++ }, func(p *api.Point) { p.Kind++ }} {
				other := copyOf(o)
				change(&other[i][j])
				if outline.Same(o, other) || outline.Same(other, o) {
					t.Error(i, j)
				}
			}
		}
	}
	if outline.Same([][]api.Point{{on(1, 2), on(3, 4)}}, [][]api.Point{{on(3, 4), on(1, 2)}}) || outline.Same([][]api.Point{ofKinds(1), ofKinds(2)}, [][]api.Point{ofKinds(2), ofKinds(1)}) {
		t.Error("in another order")
	}
}

func TestReverse(t *testing.T) {
	a, b, c, d := on(1, 2), quad(3, 4), on(5, 6), quad(7, 8)
	for _, x := range []struct{ o, want [][]api.Point }{
		{nil, nil},
		{[][]api.Point{}, nil},
		{[][]api.Point{{}, nil}, [][]api.Point{{}, {}}},
		{[][]api.Point{{a}}, [][]api.Point{{a}}},
		{[][]api.Point{{a, b}}, [][]api.Point{{a, b}}},
		{[][]api.Point{{a, b, c}}, [][]api.Point{{a, c, b}}},
		{[][]api.Point{{a, b, c, d}, {d, c, b}, {}, {b}}, [][]api.Point{{a, d, c, b}, {d, b, c}, {}, {b}}},
		{[][]api.Point{{{Kind: 9}, {X: most + 1}, {}}}, [][]api.Point{{{Kind: 9}, {}, {X: most + 1}}}},
	} {
		if r := outline.Reverse(x.o); !equal(r, x.want) {
			t.Error(x.o, r, x.want)
		}
	}
	many := contours(api.MaxContours + 10)
	if !equal(outline.Reverse(many), many) {
		t.Error("too many contours")
	}
	for i, o := range samples() {
		r := outline.Reverse(o)
		if e := outline.Check(r); e != api.OK || outline.Count(r) != outline.Count(o) || !equal(outline.Reverse(r), o) {
			t.Error(i, e)
		}
	}
}

// TestReversedCurves: an outline that begins on it has the same curves the other way round, turned.
func TestReversedCurves(t *testing.T) {
	turned := func(x api.Curve) api.Curve {
		x.A, x.D = x.D, x.A
		if x.Kind == api.CurveCubic {
			x.B, x.C = x.C, x.B
		}
		return x
	}
	allKinds(7, func(kinds []int) {
		if !kindsMay(kinds) || kinds[0] != api.PointOn {
			return
		}
		o := [][]api.Point{ofKinds(kinds...)}
		l := slices.Collect(outline.Curves(o))
		r := slices.Collect(outline.Curves(outline.Reverse(o)))
		slices.Reverse(r)
		for i := range r {
			r[i] = turned(r[i])
		}
		if !slices.Equal(l, r) {
			t.Fatal(kinds, l, r)
		}
	})
}

func TestHull(t *testing.T) {
	for _, c := range []struct {
		o    [][]api.Point
		want api.Box
	}{
		{nil, api.Box{}},
		{[][]api.Point{}, api.Box{}},
		{[][]api.Point{{on(5, -7)}}, api.Box{X0: 5, Y0: -7, X1: 5, Y1: -7}},
		{[][]api.Point{{on(5, 7), on(9, 3)}}, api.Box{X0: 5, Y0: 3, X1: 9, Y1: 7}},
		{[][]api.Point{{on(0, 0), quad(50, -60)}, {on(0, 0), cubic(-80, 1), cubic(1, 90)}}, api.Box{X0: -80, Y0: -60, X1: 50, Y1: 90}},
		{[][]api.Point{{quad(0, 1), quad(10, 1)}}, api.Box{X0: 0, Y0: 1, X1: 10, Y1: 1}},
		{[][]api.Point{{on(most, least)}, {on(least, most)}}, api.Box{X0: least, Y0: least, X1: most, Y1: most}},
		{contours(3), api.Box{X0: 0, Y0: -2, X1: 2, Y1: 0}},
	} {
		if h, e := outline.Hull(c.o); e != api.OK || h != c.want {
			t.Error(c.o, h, e, c.want)
		}
	}
}

// TestRefused: what may not be is refused by each call, with what Check says, all else being nothing.
func TestRefused(t *testing.T) {
	good := [][]api.Point{ofKinds(1, 2)}
	for name, w := range wrong() {
		if h, e := outline.Hull(w.o); h != (api.Box{}) || e != w.e {
			t.Error("Hull", name, h, e)
		}
		if x, e := outline.Explicit(w.o); len(x) != 0 || e != w.e {
			t.Error("Explicit", name, x, e)
		}
		for x := range outline.Curves(w.o) {
			t.Error("Curves", name, x)
		}
		for _, m := range []api.Matrix{affine.One(), {XX: 1 << 15}} {
			if x, e := outline.Apply(w.o, m, 0, most+1); len(x) != 0 || e != w.e {
				t.Error("Apply", name, x, e)
			}
		}
		for _, o := range [][][]api.Point{nil, good, {row(api.MaxPoints, 1)}} {
			if x, e := outline.Join(w.o, o); len(x) != 0 || e != w.e {
				t.Error("Join", name, x, e)
			}
			if x, e := outline.Join(o, w.o); len(x) != 0 || e != w.e {
				t.Error("Join behind", name, x, e)
			}
		}
		for other, v := range wrong() {
			if x, e := outline.Join(w.o, v.o); len(x) != 0 || e != w.e {
				t.Error("Join", name, other, x, e)
			}
		}
	}
}

// explains asks that an outline is made explicit, and gone over, as it is reckoned plainly.
func explains(t *testing.T, o [][]api.Point) {
	t.Helper()
	var want [][]api.Point
	var curves []api.Curve
	for _, c := range o {
		x := explicitPlainly(c)
		want, curves = append(want, x), append(curves, curvesPlainly(x)...)
	}
	x, e := outline.Explicit(o)
	if e != api.OK || !equal(x, want) {
		t.Fatalf("Explicit of %.200v: %.200v %d, want %.200v", o, x, e, want)
	}
	l := slices.Collect(outline.Curves(o))
	if !slices.Equal(l, curves) {
		t.Fatalf("Curves of %.200v: %.200v, want %.200v", o, l, curves)
	}
	if outline.Count(x) > api.MaxPoints {
		return
	}
	if again, e := outline.Explicit(x); e != api.OK || !equal(again, x) {
		t.Fatalf("Explicit of what is explicit, %.200v: %.200v %d", x, again, e)
	}
	if again := slices.Collect(outline.Curves(x)); !slices.Equal(again, l) {
		t.Fatalf("Curves of what is explicit, %.200v: %.200v", x, again)
	}
}

func TestExplicit(t *testing.T) {
	for _, o := range samples() {
		explains(t, o)
	}
	allKinds(8, func(kinds []int) {
		if kindsMay(kinds) {
			explains(t, [][]api.Point{ofKinds(kinds...)})
			explains(t, [][]api.Point{ofKinds(2, 1, 2), ofKinds(kinds...), ofKinds(2, 2)})
		}
	})
}

// TestExplicitInFull tells what becomes of contours, point by point.
func TestExplicitInFull(t *testing.T) {
	for _, c := range []struct{ c, want []api.Point }{
		{[]api.Point{on(1, 2)}, []api.Point{on(1, 2)}},
		{[]api.Point{quad(3, -5)}, []api.Point{on(3, -5), quad(3, -5)}},
		{[]api.Point{quad(0, 0), quad(5, -5)}, []api.Point{on(2, -3), quad(0, 0), on(2, -3), quad(5, -5)}},
		{[]api.Point{quad(0, 0), quad(4, 0), quad(8, 6)}, []api.Point{on(4, 3), quad(0, 0), on(2, 0), quad(4, 0), on(6, 3), quad(8, 6)}},
		{[]api.Point{quad(0, 0), on(4, 0)}, []api.Point{on(4, 0), quad(0, 0)}},
		{[]api.Point{quad(0, 0), quad(4, 0), on(8, 6)}, []api.Point{on(8, 6), quad(0, 0), on(2, 0), quad(4, 0)}},
		{[]api.Point{quad(0, 0), on(8, 6), quad(4, 0)}, []api.Point{on(8, 6), quad(4, 0), on(2, 0), quad(0, 0)}},
		{[]api.Point{quad(0, 0), on(8, 6), on(7, 7), quad(4, 0)}, []api.Point{on(8, 6), on(7, 7), quad(4, 0), on(2, 0), quad(0, 0)}},
		{[]api.Point{cubic(1, 1), on(8, 6), cubic(4, 0)}, []api.Point{on(8, 6), cubic(4, 0), cubic(1, 1)}},
		{[]api.Point{cubic(1, 1), cubic(4, 0), on(8, 6)}, []api.Point{on(8, 6), cubic(1, 1), cubic(4, 0)}},
		{[]api.Point{quad(most, least), quad(most, least)}, []api.Point{on(most, least), quad(most, least), on(most, least), quad(most, least)}},
		{[]api.Point{quad(most, least), on(0, 0), quad(most-1, least+1)}, []api.Point{on(0, 0), quad(most-1, least+1), on(most-1, least), quad(most, least)}},
		{[]api.Point{quad(-1, 0), on(0, 0), quad(0, -1)}, []api.Point{on(0, 0), quad(0, -1), on(-1, -1), quad(-1, 0)}},
	} {
		if x, e := outline.Explicit([][]api.Point{c.c}); e != api.OK || !equal(x, [][]api.Point{c.want}) {
			t.Error(c.c, x, e, c.want)
		}
	}
}

// TestExplicitMayHaveMore: an explicit outline has more points than an outline may have; such a one is refused itself.
func TestExplicitMayHaveMore(t *testing.T) {
	o := [][]api.Point{row(api.MaxPoints, api.PointQuad)}
	x, e := outline.Explicit(o)
	if e != api.OK || outline.Count(x) != 2*api.MaxPoints || outline.Check(x) != api.ErrPoints {
		t.Error(outline.Count(x), e)
	}
	n := 0
	for range outline.Curves(o) {
		n++
	}
	if n != api.MaxPoints {
		t.Error(n)
	}
}

// TestCurves tells curves of each kind in full.
func TestCurves(t *testing.T) {
	for _, c := range []struct {
		o    [][]api.Point
		want []api.Curve
	}{
		{nil, nil},
		{[][]api.Point{{on(1, 2)}}, []api.Curve{{Kind: api.CurveLine, A: on(1, 2), D: on(1, 2)}}},
		{[][]api.Point{{quad(1, 2)}}, []api.Curve{{Kind: api.CurveQuad, A: on(1, 2), B: quad(1, 2), D: on(1, 2)}}},
		{[][]api.Point{{on(1, 2), on(3, 4)}}, []api.Curve{{Kind: api.CurveLine, A: on(1, 2), D: on(3, 4)}, {Kind: api.CurveLine, A: on(3, 4), D: on(1, 2)}}},
		{[][]api.Point{{on(1, 2), quad(3, 4)}}, []api.Curve{{Kind: api.CurveQuad, A: on(1, 2), B: quad(3, 4), D: on(1, 2)}}},
		{[][]api.Point{{on(1, 2), cubic(3, 4), cubic(5, 6)}}, []api.Curve{{Kind: api.CurveCubic, A: on(1, 2), B: cubic(3, 4), C: cubic(5, 6), D: on(1, 2)}}},
		{[][]api.Point{{cubic(5, 6), on(1, 2), on(7, 8), cubic(3, 4)}}, []api.Curve{{Kind: api.CurveLine, A: on(1, 2), D: on(7, 8)}, {Kind: api.CurveCubic, A: on(7, 8), B: cubic(3, 4), C: cubic(5, 6), D: on(1, 2)}}},
		{[][]api.Point{{on(1, 2)}, {on(3, 4), quad(5, 6)}}, []api.Curve{{Kind: api.CurveLine, A: on(1, 2), D: on(1, 2)}, {Kind: api.CurveQuad, A: on(3, 4), B: quad(5, 6), D: on(3, 4)}}},
	} {
		if l := slices.Collect(outline.Curves(c.o)); !slices.Equal(l, c.want) {
			t.Error(c.o, l, c.want)
		}
	}
}

// TestCurvesGoRound: each curve begins where the one ahead ended, the first where the last did.
func TestCurvesGoRound(t *testing.T) {
	allKinds(7, func(kinds []int) {
		if !kindsMay(kinds) {
			return
		}
		l := slices.Collect(outline.Curves([][]api.Point{ofKinds(kinds...)}))
		for i, x := range l {
			if x.A != l[(i+len(l)-1)%len(l)].D || x.A.Kind != api.PointOn {
				t.Fatal(kinds, l)
			}
		}
	})
}

// TestCurvesAreStopped at each curve, begun anew, and ranged over within themselves.
func TestCurvesAreStopped(t *testing.T) {
	o := [][]api.Point{ofKinds(1, 2, 2, 1), ofKinds(2, 2), ofKinds(1), ofKinds(1, 3, 3)}
	curves := outline.Curves(o)
	want := slices.Collect(curves)
	if len(want) != 7 {
		t.Fatal(len(want))
	}
	for stop := range want {
		var l []api.Curve
		for x := range curves {
			l = append(l, x)
			if len(l) == stop+1 {
				break
			}
		}
		if !slices.Equal(l, want[:stop+1]) {
			t.Error(stop, l)
		}
	}
	count := 0
	for x := range curves {
		for y := range curves {
			if x == y {
				count++
			}
		}
	}
	if count != len(want) {
		t.Error(count)
	}
}

// TestCurvesKeepNothing: what is changed behind the call is not seen.
func TestCurvesKeepNothing(t *testing.T) {
	o := [][]api.Point{ofKinds(1, 2, 2, 1), ofKinds(1, 1, 3, 3)}
	curves := outline.Curves(o)
	want := slices.Collect(outline.Curves(copyOf(o)))
	o[0][0].X++
	clear(o[1])
	o[0] = nil
	if l := slices.Collect(curves); !slices.Equal(l, want) {
		t.Error(l, want)
	}
	bad := [][]api.Point{{{}}}
	curves = outline.Curves(bad)
	bad[0][0] = on(1, 2)
	for x := range curves {
		t.Error(x)
	}
}

func TestApply(t *testing.T) {
	turn := api.Matrix{XY: api.One14, YX: -api.One14}
	half := api.Matrix{XX: api.One14 / 2, YY: api.One14 / 2}
	for _, c := range []struct {
		o      [][]api.Point
		m      api.Matrix
		dx, dy int
		want   [][]api.Point
	}{
		{nil, turn, 5, 6, nil},
		{nil, api.Matrix{}, most, least, nil},
		{[][]api.Point{{on(5, 3)}}, turn, 0, 0, [][]api.Point{{on(-3, 5)}}},
		{[][]api.Point{{on(5, 3), quad(7, 8)}, {on(0, 0), cubic(1, 0), cubic(0, 1)}}, turn, 100, -10, [][]api.Point{{on(97, -5), quad(92, -3)}, {on(100, -10), cubic(100, -9), cubic(99, -10)}}},
		{[][]api.Point{{on(5, -5), on(-1, 1)}}, half, 0, 0, [][]api.Point{{on(3, -2), on(0, 1)}}},
		{[][]api.Point{{on(5, -5)}}, half, 1, 1, [][]api.Point{{on(4, -1)}}},
		{[][]api.Point{{on(7, 9)}}, api.Matrix{}, -4, 6, [][]api.Point{{on(-4, 6)}}},
		{[][]api.Point{{on(most, least)}}, affine.One(), 0, 0, [][]api.Point{{on(most, least)}}},
		{[][]api.Point{{on(most, least)}}, affine.One(), least, most, [][]api.Point{{on(0, 0)}}},
		{[][]api.Point{{on(most, most)}}, half, most / 2, least / 2, [][]api.Point{{on(most, 0)}}},
		{[][]api.Point{{on(1, 1)}}, api.Matrix{XX: -1 << 15, YY: 1<<15 - 1}, 0, 0, [][]api.Point{{on(-2, 2)}}},
	} {
		if x, e := outline.Apply(c.o, c.m, c.dx, c.dy); e != api.OK || !equal(x, c.want) {
			t.Error(c.o, c.m, c.dx, c.dy, x, e, c.want)
		}
	}
	for i, o := range samples() {
		if x, e := outline.Apply(o, affine.One(), 0, 0); e != api.OK || !equal(x, o) {
			t.Error(i, e)
		}
	}
}

// TestApplyErrors: matrices that may not be, then steps and places that may not be, of each number.
func TestApplyErrors(t *testing.T) {
	one, twice := affine.One(), api.Matrix{XX: -1 << 15, YY: -1 << 15}
	o := [][]api.Point{ofKinds(1, 2), ofKinds(1)}
	refused := func(o [][]api.Point, m api.Matrix, dx, dy int, want api.Errno) {
		t.Helper()
		if x, e := outline.Apply(o, m, dx, dy); len(x) != 0 || e != want {
			t.Error(o, m, dx, dy, x, e, want)
		}
	}
	for _, n := range []int{1 << 15, -1<<15 - 1, math.MinInt, math.MaxInt} {
		for _, m := range []api.Matrix{{XX: n}, {XY: n}, {YX: n}, {YY: n}} {
			for _, o := range [][][]api.Point{nil, o, {{on(most, most)}}} {
				refused(o, m, 0, 0, api.ErrArg)
				refused(o, m, most+1, 0, api.ErrArg)
			}
		}
	}
	for _, n := range []int{most + 1, least - 1, math.MinInt, math.MaxInt} {
		for _, o := range [][][]api.Point{nil, o, {{on(0, 0)}}} {
			refused(o, one, n, 0, api.ErrOver)
			refused(o, one, 0, n, api.ErrOver)
			refused(o, api.Matrix{}, n, n, api.ErrOver)
		}
	}
	for _, p := range []api.Point{on(most, 0), on(0, most), on(least, 0), on(0, least)} {
		refused([][]api.Point{{on(0, 0)}, {on(0, 0), p}}, twice, 0, 0, api.ErrOver)
		// A step does not bring back what is beyond behind the matrix.
		refused([][]api.Point{{p}}, twice, p.X, p.Y, api.ErrOver)
		step := func(x int) int { return max(min(x, 1), -1) }
		refused([][]api.Point{{on(0, 0)}, {on(0, 0), p}}, one, step(p.X), step(p.Y), api.ErrOver)
		refused([][]api.Point{{p}}, one, p.X, p.Y, api.ErrOver)
		if x, e := outline.Apply([][]api.Point{{p}}, one, -p.X, -p.Y); e != api.OK || !equal(x, [][]api.Point{{on(0, 0)}}) {
			t.Error(p, x, e)
		}
	}
	// A point of control is one, too.
	refused([][]api.Point{{on(0, 0), quad(most, 0)}}, one, 1, 0, api.ErrOver)
	refused([][]api.Point{{on(0, 0), cubic(0, 0), cubic(0, least)}}, one, 0, -1, api.ErrOver)
}

func TestJoin(t *testing.T) {
	for i, a := range samples() {
		for j, b := range samples() {
			want := append(copyOf(a), copyOf(b)...)
			x, e := outline.Join(a, b)
			if len(want) > api.MaxContours || outline.Count(want) > api.MaxPoints {
				if e != api.ErrPoints || len(x) != 0 {
					t.Error(i, j, e)
				}
			} else if e != api.OK || !equal(x, want) {
				t.Error(i, j, x, e)
			}
		}
	}
	for _, n := range []int{0, 1, 100, 255, 256} {
		rest := api.MaxContours - n
		if x, e := outline.Join(contours(n), contours(rest)); e != api.OK || len(x) != api.MaxContours {
			t.Error(n, len(x), e)
		}
		if n > 0 {
			if x, e := outline.Join(contours(n), contours(rest+1)); e != api.ErrPoints || len(x) != 0 {
				t.Error(n, len(x), e)
			}
		}
	}
	for _, n := range []int{1, 2000, 4095} {
		a, b := [][]api.Point{row(n, 1)}, [][]api.Point{row(api.MaxPoints-n, 2)}
		if x, e := outline.Join(a, b); e != api.OK || !equal(x, [][]api.Point{a[0], b[0]}) {
			t.Error(n, e)
		}
		if x, e := outline.Join(a, append(b, row(1, 1))); e != api.ErrPoints || len(x) != 0 {
			t.Error(n, e)
		}
	}
}

// TestOutlinesAreTheirOwn changes all that is answered, spare room too, and looks at what was handed in; and the other way round.
func TestOutlinesAreTheirOwn(t *testing.T) {
	spoil := func(o [][]api.Point) {
		for _, c := range o[:cap(o)] {
			c = c[:cap(c)]
			for i := range c {
				c[i] = api.Point{X: 99, Y: 99, Kind: 99}
			}
		}
		clear(o[:cap(o)])
	}
	// roomy is an outline with points behind each contour's end, and contours behind its own.
	roomy := func() [][]api.Point {
		var o [][]api.Point
		for _, c := range [][]api.Point{ofKinds(1, 2, 2, 1), ofKinds(2, 2, 2), ofKinds(1), ofKinds(1, 3, 3), ofKinds(1, 1)} {
			o = append(o, append(slices.Clone(c), on(7, 7), quad(8, 8))[:len(c)])
		}
		return o
	}
	whole := func(o [][]api.Point) [][]api.Point {
		var l [][]api.Point
		for _, c := range o[:5] {
			l = append(l, slices.Clone(c[:len(c)+2]))
		}
		return l
	}
	calls := map[string]func(o [][]api.Point) [][]api.Point{
		"Explicit": func(o [][]api.Point) [][]api.Point { x, _ := outline.Explicit(o); return x },
		"Apply":    func(o [][]api.Point) [][]api.Point { x, _ := outline.Apply(o, affine.One(), 3, 4); return x },
		"Join":     func(o [][]api.Point) [][]api.Point { x, _ := outline.Join(o, o); return x },
		"joined":   func(o [][]api.Point) [][]api.Point { x, _ := outline.Join(o, nil); return x },
		"behind":   func(o [][]api.Point) [][]api.Point { x, _ := outline.Join(nil, o); return x },
		"Reverse":  outline.Reverse,
	}
	for name, call := range calls {
		o := roomy()
		were := whole(o)
		x := call(o[:4])
		want := copyOf(x)
		if len(x) == 0 || !equal(whole(o), were) {
			t.Error(name, "changes what is handed in")
		}
		for i := range x {
			for j := range x[i] {
				x[i][j].X++
				want[i][j].X++
			}
			if _ = append(x[i], on(1, 1)); !equal(x, want) {
				t.Error(name, "answers lists that share")
			}
		}
		spoil(x)
		if !equal(whole(o), were) {
			t.Error(name, "answers what is handed in")
		}
		x = call(o[:4])
		want = copyOf(x)
		spoil(o)
		if !equal(x, want) {
			t.Error(name, "keeps what is handed in")
		}
	}
	o := roomy()
	were := whole(o)
	outline.Check(o[:4])
	outline.Count(o[:4])
	outline.Hull(o[:4])
	outline.Same(o[:4], o[:4])
	outline.Apply(o[:4], api.Matrix{XX: 1 << 14, YY: -1 << 15}, most-30, 0)
	for range outline.Curves(o[:4]) {
	}
	if !equal(whole(o), were) {
		t.Error("changed")
	}
}

// drawn is an outline of drawn points that may be.
func drawn(draw *rand.Rand, far int) [][]api.Point {
	var o [][]api.Point
	place := func(kind int) api.Point {
		return api.Point{X: draw.Intn(2*far+1) - far, Y: draw.Intn(2*far+1) - far, Kind: kind}
	}
	for range draw.Intn(5) {
		var c []api.Point
		for range draw.Intn(6) {
			switch draw.Intn(3) {
			case 0:
				c = append(c, place(api.PointOn))
			case 1:
				c = append(c, place(api.PointOn), place(api.PointCubic), place(api.PointCubic), place(api.PointOn))
			case 2:
				c = append(c, place(api.PointQuad))
			}
		}
		if len(c) == 0 {
			c = append(c, place(api.PointOn))
		}
		at := draw.Intn(len(c))
		o = append(o, append(slices.Clone(c[at:]), c[:at]...))
	}
	return o
}

// TestDrawnOutlines holds drawn outlines against a plain reckoning.
func TestDrawnOutlines(t *testing.T) {
	draw := rand.New(rand.NewSource(1))
	refused := 0
	for range 5000 {
		far := []int{3, 1000, most}[draw.Intn(3)]
		o := drawn(draw, far)
		explains(t, o)
		m := api.Matrix{XX: draw.Intn(1<<16) - 1<<15, XY: draw.Intn(1<<16) - 1<<15, YX: draw.Intn(1<<16) - 1<<15, YY: draw.Intn(1<<16) - 1<<15}
		dx, dy := draw.Intn(2*far+1)-far, draw.Intn(2*far+1)-far
		var want [][]api.Point
		over := false
		for _, c := range o {
			var d []api.Point
			for _, p := range c {
				x, y := (p.X*m.XX+p.Y*m.YX+8192)>>14, (p.X*m.XY+p.Y*m.YY+8192)>>14
				over = over || max(x, y, x+dx, y+dy) > most || min(x, y, x+dx, y+dy) < least
				d = append(d, api.Point{X: x + dx, Y: y + dy, Kind: p.Kind})
			}
			want = append(want, d)
		}
		x, e := outline.Apply(o, m, dx, dy)
		if over {
			refused++
			if e != api.ErrOver || len(x) != 0 {
				t.Fatal(o, m, dx, dy, x, e)
			}
		} else if e != api.OK || !equal(x, want) {
			t.Fatal(o, m, dx, dy, x, e, want)
		}
	}
	if refused < 500 || refused > 4500 {
		t.Error(refused)
	}
}
