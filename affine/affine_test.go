package affine_test

import (
	"math"
	"math/big"
	"slices"
	"testing"

	"serif/affine"
	"serif/api"
)

const (
	least = -1 << 31 // the least number that may be
	most  = 1 << 31  // the greatest one
	one   = api.One14
)

func matrix(xx, xy, yx, yy int) api.Matrix { return api.Matrix{XX: xx, XY: xy, YX: yx, YY: yy} }

func box(x0, y0, x1, y1 int) api.Box { return api.Box{X0: x0, Y0: y0, X1: x1, Y1: y1} }

// spoiltMatrices have one number that may not be, each at another place.
func spoiltMatrices() []api.Matrix {
	var l []api.Matrix
	for _, n := range []int{1 << 15, -1<<15 - 1, 1 << 20, 1 << 32, math.MaxInt, math.MinInt} {
		l = append(l, matrix(n, 0, 0, one), matrix(one, n, 0, one), matrix(one, 0, n, one), matrix(one, 0, 0, n))
	}
	return l
}

// spoiltBoxes are not empty, and have one number that may not be, each at another place.
func spoiltBoxes() []api.Box {
	var l []api.Box
	for _, n := range []int{1, 1 << 31, 1 << 40} {
		l = append(l, box(least-n, 0, 1, 1), box(0, least-n, 1, 1), box(0, 0, most+n, 1), box(0, 0, 1, most+n))
	}
	return append(l, box(most+1, 0, most+2, 1), box(0, most+1, 1, most+2), box(least-2, 0, least-1, 1), box(0, least-2, 1, least-1),
		box(math.MinInt, math.MinInt, math.MaxInt, math.MaxInt))
}

// emptyBoxes may be, and are all empty, in many ways.
func emptyBoxes() []api.Box {
	return []api.Box{{}, box(5, 0, 5, 9), box(0, 5, 9, 5), box(5, 0, 4, 9), box(0, 5, 9, 4), box(9, 9, 0, 0), box(7, 7, 7, 7), box(most, least, least, most), box(most, most, most, most)}
}

// plainBoxes may be, and are not empty.
func plainBoxes() []api.Box {
	return []api.Box{box(0, 0, 1, 1), box(0, 0, 4, 4), box(3, 5, 9, 6), box(-4, -4, 2, 2), box(-9, 1, -3, 2), box(4, 0, 8, 4), box(least, least, most, most), box(most-1, least, most, least+1)}
}

func checkBox(t *testing.T, name string, have api.Box, haveE api.Errno, want api.Box, wantE api.Errno, args ...any) {
	t.Helper()
	if have != want || haveE != wantE {
		t.Errorf("%s %v: %v %d, want %v %d", name, args, have, haveE, want, wantE)
	}
}

func TestMay(t *testing.T) {
	for _, m := range []api.Matrix{{}, affine.One(), matrix(-1<<15, -1<<15, -1<<15, -1<<15), matrix(1<<15-1, 1<<15-1, 1<<15-1, 1<<15-1), matrix(1, -2, 3, -4)} {
		if !affine.May(m) {
			t.Error(m, "may be")
		}
	}
	for _, m := range spoiltMatrices() {
		if affine.May(m) {
			t.Error(m, "may not be")
		}
	}
}

func TestOne(t *testing.T) {
	if m := affine.One(); m != matrix(16384, 0, 0, 16384) {
		t.Error(m)
	}
	for _, p := range [][2]int{{0, 0}, {5, -3}, {most, least}, {least, most}, {-1, 1}} {
		if x, y, e := affine.Apply(affine.One(), p[0], p[1]); x != p[0] || y != p[1] || e != api.OK {
			t.Error(p, x, y, e)
		}
	}
}

func TestApply(t *testing.T) {
	half, shear := matrix(one/2, 0, 0, one/2), matrix(one, 0, one, one)
	for _, c := range []struct {
		m          api.Matrix
		x, y       int
		wantX      int
		wantY      int
		wantErrors api.Errno
	}{
		{matrix(0, one, -one, 0), 5, 3, -3, 5, 0},
		{shear, 10, 4, 14, 4, 0},
		{matrix(1*one/4, 3*one/4, 5*one/4, -one), 8, 16, 22, -10, 0},
		{api.Matrix{}, most, least, 0, 0, 0},
		// Of two that are as near the greater one, below 0 too.
		{half, 3, -3, 2, -1, 0},
		{half, 1, -1, 1, 0, 0},
		{half, -5, 5, -2, 3, 0},
		{matrix(1, 0, 0, 1), 8192, 8191, 1, 0, 0},
		{matrix(1, 0, 0, 1), -8192, -8193, 0, -1, 0},
		// Both products are summed up before they are rounded.
		{matrix(one/4, one/4, one/4, one/4), 1, 1, 1, 1, 0},
		{matrix(one/2, -one/2, one/2, -one/2), 1, 1, 1, -1, 0},
		// At the limit and beyond it.
		{shear, most - 1, 1, most, 1, 0},
		{shear, most, 1, 0, 0, api.ErrOver},
		{shear, least + 1, -1, least, -1, 0},
		{shear, least, -1, 0, 0, api.ErrOver},
		{matrix(one, one, 0, one), 1, most, 0, 0, api.ErrOver},
		{matrix(one, one, 0, one), -1, least, 0, 0, api.ErrOver},
		{matrix(one, 0, 1, one), most, 8191, most, 8191, 0},
		{matrix(one, 0, 1, one), most, 8192, 0, 0, api.ErrOver},
		{matrix(one, 0, 1, one), least, -8192, least, -8192, 0},
		{matrix(one, 0, 1, one), least, -8193, 0, 0, api.ErrOver},
		{matrix(-one, 0, 0, -one), most, least, least, most, 0},
		{matrix(32767, 0, 32767, 0), most, most, 0, 0, api.ErrOver},
		{matrix(-1<<15, -1<<15, -1<<15, -1<<15), most, most, 0, 0, api.ErrOver},
		// Wrong places.
		{half, most + 1, 0, 0, 0, api.ErrOver},
		{half, 0, most + 1, 0, 0, api.ErrOver},
		{half, least - 1, 0, 0, 0, api.ErrOver},
		{half, 0, least - 1, 0, 0, api.ErrOver},
		{api.Matrix{}, math.MaxInt, math.MinInt, 0, 0, api.ErrOver},
		{matrix(1<<15, 0, 0, 0), 1, 1, 0, 0, api.ErrArg},
		{matrix(1<<15, 0, 0, 0), most + 1, least - 1, 0, 0, api.ErrArg},
	} {
		if x, y, e := affine.Apply(c.m, c.x, c.y); x != c.wantX || y != c.wantY || e != c.wantErrors {
			t.Errorf("Apply%v: %d, %d, %d", c, x, y, e)
		}
	}
	for _, m := range spoiltMatrices() {
		for _, x := range []int{0, 1, most, math.MinInt} {
			if px, py, e := affine.Apply(m, x, x); px != 0 || py != 0 || e != api.ErrArg {
				t.Error(m, px, py, e)
			}
		}
	}
}

// place is floor((x a + y b + 8192) / 16384), reckoned without bounds.
func place(x, a, y, b int) *big.Int {
	product := func(p, q int) *big.Int { return new(big.Int).Mul(big.NewInt(int64(p)), big.NewInt(int64(q))) }
	sum := product(x, a)
	sum.Add(sum, product(y, b))
	sum.Add(sum, big.NewInt(8192))
	return sum.Rsh(sum, 14)
}

func TestApplyEverywhere(t *testing.T) {
	parts := []int{-1 << 15, -1<<15 + 1, -one, -8193, -8192, -1, 0, 1, 8191, one, one + 1, 1<<15 - 1}
	places := []int{least, least + 1, -32769, -one, -3, -1, 0, 1, 2, 8192, one, 1 << 30, most - 1, most}
	for i, a := range parts {
		for j, b := range parts {
			m := matrix(a, parts[(i+3)%len(parts)], b, parts[(j+5)%len(parts)])
			for _, x := range places {
				for _, y := range places {
					checkApply(t, m, x, y)
				}
			}
		}
	}
}

func checkApply(t *testing.T, m api.Matrix, x, y int) {
	t.Helper()
	wantX, wantY, wantE := place(x, m.XX, y, m.YX), place(x, m.XY, y, m.YY), api.OK
	limit := big.NewInt(most)
	if wantX.CmpAbs(limit) > 0 || wantY.CmpAbs(limit) > 0 {
		wantX, wantY, wantE = new(big.Int), new(big.Int), api.ErrOver
	}
	px, py, e := affine.Apply(m, x, y)
	if big.NewInt(int64(px)).Cmp(wantX) != 0 || big.NewInt(int64(py)).Cmp(wantY) != 0 || e != wantE {
		t.Errorf("Apply(%v, %d, %d): %d, %d, %d, want %v, %v, %d", m, x, y, px, py, e, wantX, wantY, wantE)
	}
}

func TestThen(t *testing.T) {
	half, shear, quarterTurn := matrix(one/2, 0, 0, one/2), matrix(one, 0, one, one), matrix(0, one, -one, 0)
	for _, c := range []struct {
		m, n, want api.Matrix
		e          api.Errno
	}{
		{shear, half, matrix(one/2, 0, one/2, one/2), 0},
		{shear, quarterTurn, matrix(0, one, -one, one), 0},
		{quarterTurn, shear, matrix(one, one, -one, 0), 0},
		{quarterTurn, quarterTurn, matrix(-one, 0, 0, -one), 0},
		{affine.One(), matrix(1, -2, 3, -4), matrix(1, -2, 3, -4), 0},
		{matrix(1, -2, 3, -4), affine.One(), matrix(1, -2, 3, -4), 0},
		{matrix(1, -1, 3, -3), half, matrix(1, 0, 2, -1), 0},
		{api.Matrix{}, shear, api.Matrix{}, 0},
		// At the limit and beyond it, at each number.
		{matrix(one, 0, 0, one), matrix(1<<15-1, -1<<15, -1<<15, 1<<15-1), matrix(1<<15-1, -1<<15, -1<<15, 1<<15-1), 0},
		{matrix(-one, 0, 0, 0), matrix(-1<<15+1, 0, 0, 0), matrix(1<<15-1, 0, 0, 0), 0},
		{matrix(-one, 0, 0, 0), matrix(-1<<15, 0, 0, 0), api.Matrix{}, api.ErrOver},
		{matrix(0, -one, 0, 0), matrix(0, 0, 0, -1<<15), api.Matrix{}, api.ErrOver},
		{matrix(0, 0, -one, 0), matrix(-1<<15, 0, 0, 0), api.Matrix{}, api.ErrOver},
		{matrix(0, 0, 0, -one), matrix(0, 0, 0, -1<<15), api.Matrix{}, api.ErrOver},
		{matrix(-one-1, 0, 0, 0), matrix(1<<15-1, 0, 0, 0), api.Matrix{}, api.ErrOver},
		{matrix(1<<15-1, 0, 0, 0), matrix(1<<15-1, 0, 0, 0), api.Matrix{}, api.ErrOver},
		// Wrong matrices, also where the other one would make the result too large.
		{matrix(1<<15, 0, 0, 0), affine.One(), api.Matrix{}, api.ErrArg},
		{affine.One(), matrix(0, 0, 0, -1<<15-1), api.Matrix{}, api.ErrArg},
		{matrix(1<<15-1, 0, 0, 0), matrix(1<<15, 0, 0, 0), api.Matrix{}, api.ErrArg},
	} {
		if m, e := affine.Then(c.m, c.n); m != c.want || e != c.e {
			t.Errorf("Then(%v, %v): %v %d, want %v %d", c.m, c.n, m, e, c.want, c.e)
		}
	}
	for _, m := range spoiltMatrices() {
		if r, e := affine.Then(m, affine.One()); r != (api.Matrix{}) || e != api.ErrArg {
			t.Error(m, r, e)
		}
		if r, e := affine.Then(affine.One(), m); r != (api.Matrix{}) || e != api.ErrArg {
			t.Error(m, r, e)
		}
	}
}

// TestThenIsOneBehindTheOther: places up to 1 are a half off for each of two roundings, and for each number of the matrix; the second matrix makes one of these at most four times as large.
func TestThenIsOneBehindTheOther(t *testing.T) {
	matrices := []api.Matrix{affine.One(), matrix(0, one, -one, 0), matrix(one/3, -one/5, one/7, one/2), matrix(-one, 17, 5, 12345), matrix(1, -2, 3, 16000)}
	for _, m := range matrices {
		for _, n := range matrices {
			both, e := affine.Then(m, n)
			if e != api.OK {
				t.Fatal(m, n, e)
			}
			for _, p := range [][2]int{{0, 0}, {one, one}, {-one, one}, {777, -12345}, {1, -1}} {
				x, y, _ := affine.Apply(both, p[0], p[1])
				ax, ay, _ := affine.Apply(m, p[0], p[1])
				bx, by, _ := affine.Apply(n, ax, ay)
				if max(x-bx, bx-x, y-by, by-y) > 4 {
					t.Error(m, n, p, x, y, bx, by)
				}
			}
		}
	}
}

func TestDet(t *testing.T) {
	for _, c := range []struct {
		m    api.Matrix
		want int
	}{
		{affine.One(), 1 << 28},
		{matrix(0, one, -one, 0), 1 << 28},
		{matrix(0, one, one, 0), -1 << 28},
		{matrix(2, 3, 5, 7), -1},
		{matrix(3, 2, 7, 5), 1},
		{matrix(-1<<15, 1<<15-1, -1<<15, -1<<15), 1<<30 + 1<<15*(1<<15-1)},
		{api.Matrix{}, 0},
		{matrix(4, 2, 6, 3), 0},
	} {
		if d := affine.Det(c.m); d != c.want {
			t.Errorf("Det(%v): %d, want %d", c.m, d, c.want)
		}
	}
	for _, n := range []int{1 << 15, -1<<15 - 1, math.MaxInt, math.MinInt} {
		for _, m := range []api.Matrix{matrix(n, 1, 1, 2), matrix(2, n, 1, 2), matrix(2, 1, n, 2), matrix(2, 1, 1, n)} {
			if d := affine.Det(m); d != 0 {
				t.Error(m, d)
			}
		}
	}
}

func TestMayBox(t *testing.T) {
	for _, b := range append(emptyBoxes(), plainBoxes()...) {
		if !affine.MayBox(b) {
			t.Error(b, "may be")
		}
	}
	for _, b := range spoiltBoxes() {
		if affine.MayBox(b) {
			t.Error(b, "may not be")
		}
	}
}

func TestEmpty(t *testing.T) {
	for _, b := range emptyBoxes() {
		if !affine.Empty(b) {
			t.Error(b, "is empty")
		}
	}
	for _, b := range plainBoxes() {
		if affine.Empty(b) {
			t.Error(b, "is not empty")
		}
	}
}

func TestJoin(t *testing.T) {
	for _, c := range []struct{ a, b, want api.Box }{
		{box(0, 0, 4, 4), box(3, 5, 9, 6), box(0, 0, 9, 6)},
		{box(-4, 3, -2, 8), box(1, -7, 2, -5), box(-4, -7, 2, 8)},
		{box(0, 0, 9, 9), box(2, 3, 4, 5), box(0, 0, 9, 9)},
		{box(least, 0, 0, 1), box(0, 0, most, 1), box(least, 0, most, 1)},
		{box(5, 5, 6, 6), box(9, 9, 9, 9), box(5, 5, 6, 6)},
		{box(5, 5, 6, 6), box(-9, 0, -12, 7), box(5, 5, 6, 6)},
		{box(5, 5, 6, 6), box(0, 90, 7, 80), box(5, 5, 6, 6)},
	} {
		j, e := affine.Join(c.a, c.b)
		checkBox(t, "Join", j, e, c.want, api.OK, c.a, c.b)
		j, e = affine.Join(c.b, c.a)
		checkBox(t, "Join", j, e, c.want, api.OK, c.b, c.a)
	}
}

func TestMeet(t *testing.T) {
	for _, c := range []struct{ a, b, want api.Box }{
		{box(0, 0, 4, 4), box(3, 5, 9, 6), api.Box{}},
		{box(0, 0, 4, 4), box(3, 2, 9, 6), box(3, 2, 4, 4)},
		{box(0, 0, 4, 4), box(4, 0, 8, 4), api.Box{}},
		{box(0, 0, 4, 4), box(0, 4, 4, 8), api.Box{}},
		{box(-9, -9, 9, 9), box(-2, -3, 4, 5), box(-2, -3, 4, 5)},
		{box(-9, 0, 9, 1), box(-2, -3, 4, 5), box(-2, 0, 4, 1)},
		{box(least, least, most, most), box(7, 8, 9, 10), box(7, 8, 9, 10)},
	} {
		m, e := affine.Meet(c.a, c.b)
		checkBox(t, "Meet", m, e, c.want, api.OK, c.a, c.b)
		m, e = affine.Meet(c.b, c.a)
		checkBox(t, "Meet", m, e, c.want, api.OK, c.b, c.a)
	}
}

func TestJoinAndMeetOfEmptyBoxes(t *testing.T) {
	for _, empty := range emptyBoxes() {
		for _, b := range append(plainBoxes(), api.Box{}) {
			j, e := affine.Join(empty, b)
			checkBox(t, "Join", j, e, b, api.OK, empty, b)
			j, e = affine.Join(b, empty)
			checkBox(t, "Join", j, e, b, api.OK, b, empty)
			m, e := affine.Meet(empty, b)
			checkBox(t, "Meet", m, e, api.Box{}, api.OK, empty, b)
			m, e = affine.Meet(b, empty)
			checkBox(t, "Meet", m, e, api.Box{}, api.OK, b, empty)
		}
		for _, other := range emptyBoxes() {
			j, e := affine.Join(empty, other)
			checkBox(t, "Join", j, e, api.Box{}, api.OK, empty, other)
			m, e := affine.Meet(empty, other)
			checkBox(t, "Meet", m, e, api.Box{}, api.OK, empty, other)
		}
	}
}

func TestBoxesThatMayNotBe(t *testing.T) {
	for _, b := range spoiltBoxes() {
		for _, other := range []api.Box{{}, box(0, 0, 4, 4), box(9, 9, 3, 3), b} {
			j, e := affine.Join(b, other)
			checkBox(t, "Join", j, e, api.Box{}, api.ErrOver, b, other)
			j, e = affine.Join(other, b)
			checkBox(t, "Join", j, e, api.Box{}, api.ErrOver, other, b)
			m, e := affine.Meet(b, other)
			checkBox(t, "Meet", m, e, api.Box{}, api.ErrOver, b, other)
			m, e = affine.Meet(other, b)
			checkBox(t, "Meet", m, e, api.Box{}, api.ErrOver, other, b)
		}
		s, e := affine.Shift(b, 0, 0)
		checkBox(t, "Shift", s, e, api.Box{}, api.ErrOver, b)
		s, e = affine.Pixels(b)
		checkBox(t, "Pixels", s, e, api.Box{}, api.ErrOver, b)
		if n, e := affine.Area(b); n != 0 || e != api.ErrOver {
			t.Error("Area", b, n, e)
		}
		if affine.Holds(b, 0, 0) || affine.Holds(b, b.X0, b.Y0) || affine.Holds(b, b.X1-1, b.Y1-1) {
			t.Error("Holds", b)
		}
	}
}

// TestEmptyBoxesThatMayNotBe: that a box may not be is told ahead of its being empty.
func TestEmptyBoxesThatMayNotBe(t *testing.T) {
	for _, b := range []api.Box{box(most+1, 0, 0, 1), box(0, most+1, 1, 0), box(0, 0, least-1, 1), box(0, 0, 1, least-1), box(math.MaxInt, math.MaxInt, math.MinInt, math.MinInt)} {
		if affine.MayBox(b) || affine.Holds(b, 0, 0) {
			t.Error(b, "may not be")
		}
		j, e := affine.Join(b, box(0, 0, 4, 4))
		checkBox(t, "Join", j, e, api.Box{}, api.ErrOver, b)
		j, e = affine.Join(box(0, 0, 4, 4), b)
		checkBox(t, "Join", j, e, api.Box{}, api.ErrOver, b)
		m, e := affine.Meet(b, box(0, 0, 4, 4))
		checkBox(t, "Meet", m, e, api.Box{}, api.ErrOver, b)
		m, e = affine.Meet(box(0, 0, 4, 4), b)
		checkBox(t, "Meet", m, e, api.Box{}, api.ErrOver, b)
		s, e := affine.Shift(b, 1, 1)
		checkBox(t, "Shift", s, e, api.Box{}, api.ErrOver, b)
	}
}

func TestHolds(t *testing.T) {
	b := box(-2, 3, 5, 9)
	for _, p := range [][2]int{{-2, 3}, {4, 8}, {-2, 8}, {4, 3}, {0, 5}} {
		if !affine.Holds(b, p[0], p[1]) {
			t.Error(p, "is in", b)
		}
	}
	for _, p := range [][2]int{{-3, 5}, {5, 5}, {0, 2}, {0, 9}, {math.MinInt, 5}, {math.MaxInt, 5}, {0, math.MinInt}, {0, math.MaxInt}} {
		if affine.Holds(b, p[0], p[1]) {
			t.Error(p, "is not in", b)
		}
	}
	whole := box(least, least, most, most)
	if !affine.Holds(whole, least, least) || !affine.Holds(whole, most-1, most-1) || affine.Holds(whole, most, 0) || affine.Holds(whole, 0, most) || affine.Holds(whole, least-1, 0) {
		t.Error("at the limits of", whole)
	}
	for _, empty := range emptyBoxes() {
		for _, x := range []int{-1, 0, 4, 5, 7, most, least} {
			if affine.Holds(empty, x, x) || affine.Holds(empty, empty.X0, empty.Y0) {
				t.Error("Holds", empty, x)
			}
		}
	}
}

// TestInBothAndInOne goes over all places near small boxes: what is in both is in the meet and in each; what is in one is in the join.
func TestInBothAndInOne(t *testing.T) {
	boxes := []api.Box{box(0, 0, 3, 3), box(2, 1, 5, 2), box(-2, -2, 0, 0), box(1, 1, 1, 4), box(4, 4, 2, 5), box(-1, 0, 6, 1), {}}
	for _, a := range boxes {
		for _, b := range boxes {
			m, e := affine.Meet(a, b)
			j, f := affine.Join(a, b)
			if e != api.OK || f != api.OK {
				t.Fatal(a, b, e, f)
			}
			for x := -4; x < 8; x++ {
				for y := -4; y < 8; y++ {
					inA, inB := affine.Holds(a, x, y), affine.Holds(b, x, y)
					if affine.Holds(m, x, y) != (inA && inB) {
						t.Error("Meet", a, b, x, y)
					}
					if (inA || inB) && !affine.Holds(j, x, y) {
						t.Error("Join", a, b, x, y)
					}
				}
			}
		}
	}
}

func TestShift(t *testing.T) {
	for _, c := range []struct {
		b      api.Box
		dx, dy int
		want   api.Box
		e      api.Errno
	}{
		{box(1, 2, 3, 4), 10, -20, box(11, -18, 13, -16), 0},
		{box(1, 2, 3, 4), 0, 0, box(1, 2, 3, 4), 0},
		{box(0, 0, 1, 1), most - 1, 0, box(most-1, 0, most, 1), 0},
		{box(0, 0, 1, 1), most, 0, api.Box{}, api.ErrOver},
		{box(0, 0, 1, 1), 0, most - 1, box(0, most-1, 1, most), 0},
		{box(0, 0, 1, 1), 0, most, api.Box{}, api.ErrOver},
		{box(0, 0, 1, 1), least, least, box(least, least, least+1, least+1), 0},
		{box(-1, 0, 1, 1), least, 0, api.Box{}, api.ErrOver},
		{box(0, -1, 1, 1), 0, least, api.Box{}, api.ErrOver},
		{box(least, least, least+1, least+1), most, most, box(0, 0, 1, 1), 0},
		{box(0, 0, 1, 1), most + 1, 0, api.Box{}, api.ErrOver},
		{box(least, 0, least+1, 1), most + 1, 0, api.Box{}, api.ErrOver},
		{box(0, most-1, 1, most), 0, least - 1, api.Box{}, api.ErrOver},
		{box(0, 0, 1, 1), math.MaxInt, math.MinInt, api.Box{}, api.ErrOver},
		{api.Box{}, most + 1, 0, api.Box{}, api.ErrOver},
		{api.Box{}, 0, least - 1, api.Box{}, api.ErrOver},
		{box(5, 0, 4, 9), 1, 1, api.Box{}, 0},
	} {
		s, e := affine.Shift(c.b, c.dx, c.dy)
		checkBox(t, "Shift", s, e, c.want, c.e, c.b, c.dx, c.dy)
	}
	for _, b := range emptyBoxes() {
		for _, d := range []int{0, 1, -7, most, least} {
			s, e := affine.Shift(b, d, d)
			checkBox(t, "Shift", s, e, api.Box{}, api.OK, b, d)
		}
	}
}

func TestPixels(t *testing.T) {
	for _, c := range []struct{ b, want api.Box }{
		{box(-1, 0, 65, 64), box(-1, 0, 2, 1)},
		{box(64, 63, 129, 128), box(1, 0, 3, 2)},
		{box(0, 0, 64, 64), box(0, 0, 1, 1)},
		{box(10, 20, 11, 21), box(0, 0, 1, 1)},
		{box(-65, -64, -63, -1), box(-2, -1, 0, 0)},
		{box(-128, -129, -64, -65), box(-2, -3, -1, -1)},
		{box(least, least+1, most, most-1), box(-1<<25, -1<<25, 1<<25, 1<<25)},
	} {
		p, e := affine.Pixels(c.b)
		checkBox(t, "Pixels", p, e, c.want, api.OK, c.b)
	}
	for _, b := range emptyBoxes() {
		p, e := affine.Pixels(b)
		checkBox(t, "Pixels", p, e, api.Box{}, api.OK, b)
	}
}

func TestHull(t *testing.T) {
	for _, c := range []struct {
		xs, ys []int
		want   api.Box
		e      api.Errno
	}{
		{[]int{3, -1, 7}, []int{4, 9, 2}, box(-1, 2, 7, 9), 0},
		{[]int{9, 5, 1}, []int{-9, -5, -1}, box(1, -9, 9, -1), 0},
		{[]int{5}, []int{6}, box(5, 6, 5, 6), 0},
		{[]int{2, 8}, []int{3, 3}, box(2, 3, 8, 3), 0},
		{[]int{-4, -2}, []int{-3, -7}, box(-4, -7, -2, -3), 0},
		{[]int{least, most}, []int{most, least}, box(least, least, most, most), 0},
		{nil, nil, api.Box{}, 0},
		{[]int{}, nil, api.Box{}, 0},
		{nil, []int{}, api.Box{}, 0},
		{[]int{1}, nil, api.Box{}, api.ErrArg},
		{nil, []int{1}, api.Box{}, api.ErrArg},
		{[]int{1, 2}, []int{1}, api.Box{}, api.ErrArg},
		{[]int{most + 1}, nil, api.Box{}, api.ErrArg},
		{[]int{most + 1, 1}, []int{1}, api.Box{}, api.ErrArg},
		{[]int{most + 1}, []int{1}, api.Box{}, api.ErrOver},
		{[]int{1}, []int{least - 1}, api.Box{}, api.ErrOver},
		{[]int{1, 2, most + 1}, []int{1, 2, 3}, api.Box{}, api.ErrOver},
		{[]int{1, 2, 3}, []int{1, math.MinInt, 3}, api.Box{}, api.ErrOver},
	} {
		h, e := affine.Hull(c.xs, c.ys)
		checkBox(t, "Hull", h, e, c.want, c.e, c.xs, c.ys)
	}
}

func TestHullLeavesItsListsAsTheyAre(t *testing.T) {
	room := []int{5, 3, 9, 100, -100}
	affine.Hull(room[:3], room[1:4])
	if !slices.Equal(room, []int{5, 3, 9, 100, -100}) {
		t.Error(room)
	}
}

func TestArea(t *testing.T) {
	for _, c := range []struct {
		b    api.Box
		want int
		e    api.Errno
	}{
		{box(0, 0, 3, 5), 15, 0},
		{box(-3, -5, 4, 6), 77, 0},
		{box(0, 0, 1<<20, 1<<20), 1 << 40, 0},
		{box(0, 0, 1<<20+1, 1<<20), 0, api.ErrOver},
		{box(0, 0, 1<<20, 1<<20+1), 0, api.ErrOver},
		{box(0, 0, 1<<20+1, 1<<20-1), 1<<40 - 1, 0},
		{box(0, 0, 1<<9, most), 1 << 40, 0},
		{box(0, 0, 1<<9+1, most), 0, api.ErrOver},
		{box(0, least, 1<<8, most), 1 << 40, 0},
		{box(least, 0, most, 1<<8), 1 << 40, 0},
		{box(least, 0, most, 1<<8+1), 0, api.ErrOver},
		// These areas would be 0, and below 0, as ints that wrap round.
		{box(least, least, most, most), 0, api.ErrOver},
		{box(least, 0, most, most), 0, api.ErrOver},
	} {
		if n, e := affine.Area(c.b); n != c.want || e != c.e {
			t.Errorf("Area(%v): %d %d, want %d %d", c.b, n, e, c.want, c.e)
		}
	}
	for _, b := range emptyBoxes() {
		if n, e := affine.Area(b); n != 0 || e != api.OK {
			t.Error("Area", b, n, e)
		}
	}
}
