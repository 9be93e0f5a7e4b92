package fixed_test

import (
	"math"
	"math/big"
	"testing"

	"serif/api"
	"serif/fixed"
)

const (
	least = -1 << 31 // the least number that may be
	most  = 1 << 31  // the greatest one
	far   = 1 << 61  // how far from 0 a number of Near may be
)

// edges are numbers at which an answer is likely to go wrong, and both neighbours of each.
func edges() []int {
	var l []int
	for _, x := range []int{0, 3, 32, 64, 96, 512, 1024, 1536, 1 << 15, 1 << 16, 3 << 15, 1 << 21, 1 << 30, most, 1 << 32, 1 << 60} {
		l = append(l, x-1, x, x+1, -x-1, -x, -x+1)
	}
	l = append(l, far-1, far, far+1, -far-1, -far, -far+1, 1<<62, -1<<62)
	return append(l, math.MaxInt, math.MaxInt-1, math.MaxInt-31, math.MaxInt-32, math.MinInt, math.MinInt+1, math.MinInt+31, math.MinInt+32)
}

// mayEdges are those of edges that may be.
func mayEdges() []int {
	var l []int
	for _, x := range edges() {
		if least <= x && x <= most {
			l = append(l, x)
		}
	}
	return l
}

func number(x int) *big.Int { return big.NewInt(int64(x)) }

// nearest is floor(a/b + 1/2), reckoned without bounds.
func nearest(a, b *big.Int) *big.Int {
	a, b = new(big.Int).Set(a), new(big.Int).Set(b)
	if b.Sign() < 0 {
		a.Neg(a)
		b.Neg(b)
	}
	n := new(big.Int).Lsh(a, 1)
	n.Add(n, b)
	return n.Div(n, b.Lsh(b, 1)) // of a divisor above 0 Div is the floor
}

func product(a, b int) *big.Int { return new(big.Int).Mul(number(a), number(b)) }

// ranged is what is answered where the result alone can be refused.
func ranged(x *big.Int) (int, api.Errno) {
	if x.CmpAbs(number(most)) > 0 {
		return 0, api.ErrOver
	}
	return int(x.Int64()), api.OK
}

func refused(numbers ...int) bool {
	for _, x := range numbers {
		if x < least || x > most {
			return true
		}
	}
	return false
}

type answer struct {
	x int
	e api.Errno
}

func got(x int, e api.Errno) answer { return answer{x, e} }

func check(t *testing.T, name string, have, want answer, args ...int) {
	t.Helper()
	if have != want {
		t.Errorf("%s%v: %v, want %v", name, args, have, want)
	}
}

func TestMay(t *testing.T) {
	for _, x := range []int{0, 1, -1, most, least, most - 1, least + 1} {
		if !fixed.May(x) {
			t.Error(x, "may be")
		}
	}
	for _, x := range []int{most + 1, least - 1, 1 << 32, -1 << 32, math.MaxInt, math.MinInt} {
		if fixed.May(x) {
			t.Error(x, "may not be")
		}
	}
}

func TestAddSub(t *testing.T) {
	for _, c := range []struct {
		a, b     int
		sum, dif answer
	}{
		{2, 3, answer{5, 0}, answer{-1, 0}},
		{-5, 7, answer{2, 0}, answer{-12, 0}},
		{most, 0, answer{most, 0}, answer{most, 0}},
		{most, 1, answer{0, api.ErrOver}, answer{most - 1, 0}},
		{least, 1, answer{least + 1, 0}, answer{0, api.ErrOver}},
		{most, most, answer{0, api.ErrOver}, answer{0, 0}},
		{least, most, answer{0, 0}, answer{0, api.ErrOver}},
		{most - 1, 1, answer{most, 0}, answer{most - 2, 0}},
		{least + 1, 1, answer{least + 2, 0}, answer{least, 0}},
		{most + 1, -1, answer{0, api.ErrOver}, answer{0, api.ErrOver}},
		{most + 1, 1, answer{0, api.ErrOver}, answer{0, api.ErrOver}},
		{-1, most + 1, answer{0, api.ErrOver}, answer{0, api.ErrOver}},
		{0, least - 1, answer{0, api.ErrOver}, answer{0, api.ErrOver}},
		{math.MaxInt, math.MaxInt, answer{0, api.ErrOver}, answer{0, api.ErrOver}},
		{math.MinInt, math.MinInt, answer{0, api.ErrOver}, answer{0, api.ErrOver}},
	} {
		check(t, "Add", got(fixed.Add(c.a, c.b)), c.sum, c.a, c.b)
		check(t, "Sub", got(fixed.Sub(c.a, c.b)), c.dif, c.a, c.b)
	}
}

func TestAddSubEverywhere(t *testing.T) {
	for _, a := range edges() {
		for _, b := range edges() {
			sum, dif := answer{0, api.ErrOver}, answer{0, api.ErrOver}
			if !refused(a, b) {
				sum = got(ranged(new(big.Int).Add(number(a), number(b))))
				dif = got(ranged(new(big.Int).Sub(number(a), number(b))))
			}
			check(t, "Add", got(fixed.Add(a, b)), sum, a, b)
			check(t, "Sub", got(fixed.Sub(a, b)), dif, a, b)
		}
	}
}

func TestMul(t *testing.T) {
	for _, c := range []struct {
		a, b int
		want answer
	}{
		{98304, 2, answer{3, 0}},
		{3 * api.One16 / 2, -api.One16 / 2, answer{-3 * api.One16 / 4, 0}},
		{1, 32767, answer{0, 0}},
		{1, 32768, answer{1, 0}},
		{1, -32768, answer{0, 0}},
		{-1, 32768, answer{0, 0}},
		{-1, -32768, answer{1, 0}},
		{-1, 32769, answer{-1, 0}},
		{3, 32768, answer{2, 0}},
		{-3, 32768, answer{-1, 0}},
		{0, most, answer{0, 0}},
		{0, least, answer{0, 0}},
		{most, api.One16, answer{most, 0}},
		{most, -api.One16, answer{least, 0}},
		{least, -api.One16, answer{most, 0}},
		{most, api.One16 + 1, answer{0, api.ErrOver}},
		{least, api.One16 + 1, answer{0, api.ErrOver}},
		{most, most, answer{0, api.ErrOver}},
		{least, least, answer{0, api.ErrOver}},
		{least, most, answer{0, api.ErrOver}},
		{most + 1, 0, answer{0, api.ErrOver}},
		{0, least - 1, answer{0, api.ErrOver}},
		{math.MinInt, math.MinInt, answer{0, api.ErrOver}},
	} {
		check(t, "Mul", got(fixed.Mul(c.a, c.b)), c.want, c.a, c.b)
	}
}

func TestDiv(t *testing.T) {
	for _, c := range []struct {
		a, b int
		want answer
	}{
		{1, 3 * api.One16, answer{0, 0}},
		{api.One16, 2 * api.One16, answer{api.One16 / 2, 0}},
		{api.One16, -3, answer{-1431655765, 0}},
		{1, 2 * api.One16, answer{1, 0}},
		{-1, 2 * api.One16, answer{0, 0}},
		{1, -2 * api.One16, answer{0, 0}},
		{-1, -2 * api.One16, answer{1, 0}},
		{-3, 2 * api.One16, answer{-1, 0}},
		{3, 2 * api.One16, answer{2, 0}},
		{0, -7, answer{0, 0}},
		{most, api.One16, answer{most, 0}},
		{most, -api.One16, answer{least, 0}},
		{1 << 15, 1, answer{most, 0}},
		{-1 << 15, 1, answer{least, 0}},
		{1<<15 + 1, 1, answer{0, api.ErrOver}},
		{most, 1, answer{0, api.ErrOver}},
		{most, api.One16 - 1, answer{0, api.ErrOver}},
		{5, 0, answer{0, api.ErrArg}},
		{0, 0, answer{0, api.ErrArg}},
		{most, 0, answer{0, api.ErrArg}},
		{most + 1, 0, answer{0, api.ErrOver}},
		{least - 1, 0, answer{0, api.ErrOver}},
		{0, most + 1, answer{0, api.ErrOver}},
		{math.MinInt, -1, answer{0, api.ErrOver}},
	} {
		check(t, "Div", got(fixed.Div(c.a, c.b)), c.want, c.a, c.b)
	}
}

func TestMulDiv(t *testing.T) {
	for _, c := range []struct {
		a, b, c int
		want    answer
	}{
		{7, 3, 2, answer{11, 0}},
		{7, 3, -2, answer{-10, 0}},
		{-7, 3, 2, answer{-10, 0}},
		{-7, -3, 2, answer{11, 0}},
		{-7, 3, -2, answer{11, 0}},
		{-7, -3, -2, answer{-10, 0}},
		{2, 5, 3, answer{3, 0}},
		{-2, 5, 3, answer{-3, 0}},
		{0, 9, -4, answer{0, 0}},
		{most, most, most, answer{most, 0}},
		{least, most, most, answer{least, 0}},
		{least, least, least, answer{least, 0}},
		{least, least, most, answer{most, 0}},
		{most, most, 1, answer{0, api.ErrOver}},
		{least, most, 1, answer{0, api.ErrOver}},
		// 6700417 times 641 is 2^32 + 1: the half beyond MaxFixed goes up on both sides.
		{6700417, 641, 2, answer{0, api.ErrOver}},
		{-6700417, 641, 2, answer{least, 0}},
		{6700417, -641, 2, answer{least, 0}},
		{6700417, 641, -2, answer{least, 0}},
		{most, 3, 3, answer{most, 0}},
		{1, 1, 0, answer{0, api.ErrArg}},
		{0, 0, 0, answer{0, api.ErrArg}},
		{most, least, 0, answer{0, api.ErrArg}},
		{most + 1, 1, 0, answer{0, api.ErrOver}},
		{1, least - 1, 0, answer{0, api.ErrOver}},
		{0, 0, most + 1, answer{0, api.ErrOver}},
		{0, 0, least - 1, answer{0, api.ErrOver}},
		{0, most + 1, 1, answer{0, api.ErrOver}},
		{math.MinInt, 1, -1, answer{0, api.ErrOver}},
	} {
		check(t, "MulDiv", got(fixed.MulDiv(c.a, c.b, c.c)), c.want, c.a, c.b, c.c)
	}
}

// quotient is what is answered to a / b of arguments that may be.
func quotient(a, b *big.Int) answer {
	if b.Sign() == 0 {
		return answer{0, api.ErrArg}
	}
	return got(ranged(nearest(a, b)))
}

func TestMulAndDivEverywhere(t *testing.T) {
	for _, a := range edges() {
		for _, b := range edges() {
			mul, div := answer{0, api.ErrOver}, answer{0, api.ErrOver}
			if !refused(a, b) {
				mul = quotient(product(a, b), number(api.One16))
				div = quotient(product(a, api.One16), number(b))
			}
			check(t, "Mul", got(fixed.Mul(a, b)), mul, a, b)
			check(t, "Div", got(fixed.Div(a, b)), div, a, b)
		}
	}
}

func TestMulDivEverywhere(t *testing.T) {
	for _, a := range mayEdges() {
		for _, b := range mayEdges() {
			for _, c := range mayEdges() {
				check(t, "MulDiv", got(fixed.MulDiv(a, b, c)), quotient(product(a, b), number(c)), a, b, c)
			}
		}
	}
	for _, x := range edges() {
		if !refused(x) {
			continue
		}
		for _, y := range mayEdges() {
			check(t, "MulDiv", got(fixed.MulDiv(x, y, y)), answer{0, api.ErrOver}, x, y, y)
			check(t, "MulDiv", got(fixed.MulDiv(y, x, y)), answer{0, api.ErrOver}, y, x, y)
			check(t, "MulDiv", got(fixed.MulDiv(y, y, x)), answer{0, api.ErrOver}, y, y, x)
		}
	}
}

func TestNear(t *testing.T) {
	for _, c := range []struct {
		a, b int
		want answer
	}{
		{7, 2, answer{4, 0}},
		{-7, 2, answer{-3, 0}},
		{-1, 2, answer{0, 0}},
		{1, 2, answer{1, 0}},
		{-3, 2, answer{-1, 0}},
		{-5, 3, answer{-2, 0}},
		{-4, 3, answer{-1, 0}},
		{4, 3, answer{1, 0}},
		{0, 9, answer{0, 0}},
		{far, 1, answer{far, 0}},
		{-far, 1, answer{-far, 0}},
		{far, far, answer{1, 0}},
		{-far, far, answer{-1, 0}},
		{far / 2, far, answer{1, 0}},
		{-far / 2, far, answer{0, 0}},
		{-far/2 - 1, far, answer{-1, 0}},
		{far/2 - 1, far, answer{0, 0}},
		{most + 1, 1, answer{most + 1, 0}},
		{least - 1, 1, answer{least - 1, 0}},
		{1, 0, answer{0, api.ErrArg}},
		{1, -1, answer{0, api.ErrArg}},
		{1, math.MinInt, answer{0, api.ErrArg}},
		{far + 1, 0, answer{0, api.ErrArg}},
		{math.MinInt, -1, answer{0, api.ErrArg}},
		{far + 1, 1, answer{0, api.ErrOver}},
		{-far - 1, 1, answer{0, api.ErrOver}},
		{0, far + 1, answer{0, api.ErrOver}},
		{math.MaxInt, math.MaxInt, answer{0, api.ErrOver}},
		{math.MinInt, 1, answer{0, api.ErrOver}},
	} {
		check(t, "Near", got(fixed.Near(c.a, c.b)), c.want, c.a, c.b)
	}
}

func TestNearEverywhere(t *testing.T) {
	for _, a := range edges() {
		for _, b := range edges() {
			var want answer
			switch {
			case b < 1:
				want.e = api.ErrArg
			case a < -far || a > far || b > far:
				want.e = api.ErrOver
			default:
				want.x = int(nearest(number(a), number(b)).Int64())
			}
			check(t, "Near", got(fixed.Near(a, b)), want, a, b)
		}
	}
}

func TestRoot(t *testing.T) {
	for _, c := range []struct {
		x    int
		want answer
	}{
		{0, answer{0, 0}},
		{1, answer{256, 0}},
		{2, answer{362, 0}},
		{3, answer{443, 0}},
		{api.One16, answer{api.One16, 0}},
		{api.One16 - 1, answer{api.One16 - 1, 0}},
		{4 * api.One16, answer{2 * api.One16, 0}},
		{4*api.One16 - 1, answer{2*api.One16 - 1, 0}},
		{most, answer{11863283, 0}},
		{-1, answer{0, api.ErrArg}},
		{least, answer{0, api.ErrArg}},
		{least - 1, answer{0, api.ErrOver}},
		{most + 1, answer{0, api.ErrOver}},
		{math.MaxInt, answer{0, api.ErrOver}},
		{math.MinInt, answer{0, api.ErrOver}},
	} {
		check(t, "Root", got(fixed.Root(c.x)), c.want, c.x)
	}
	for _, x := range mayEdges() {
		if x >= 0 {
			want := new(big.Int).Sqrt(product(x, api.One16))
			check(t, "Root", got(fixed.Root(x)), answer{int(want.Int64()), 0}, x)
		}
	}
}

func TestRounding(t *testing.T) {
	for _, c := range []struct{ x, floor, ceil, round int }{
		{0, 0, 0, 0},
		{1, 0, 1, 0},
		{31, 0, 1, 0},
		{32, 0, 1, 1},
		{63, 0, 1, 1},
		{64, 1, 1, 1},
		{65, 1, 2, 1},
		{96, 1, 2, 2},
		{-1, -1, 0, 0},
		{-32, -1, 0, 0},
		{-33, -1, 0, -1},
		{-63, -1, 0, -1},
		{-64, -1, -1, -1},
		{-65, -2, -1, -1},
		{-96, -2, -1, -1},
		{-97, -2, -1, -2},
		{math.MaxInt, 1<<57 - 1, 1 << 57, 1 << 57},
		{math.MinInt, -1 << 57, -1 << 57, -1 << 57},
		{math.MinInt + 1, -1 << 57, -1<<57 + 1, -1 << 57},
	} {
		floor, ceil, round := fixed.Floor26(c.x), fixed.Ceil26(c.x), fixed.Round26(c.x)
		if floor != c.floor || ceil != c.ceil || round != c.round {
			t.Errorf("%d: %d, %d, %d, want %v", c.x, floor, ceil, round, c)
		}
	}
}

func TestTo26(t *testing.T) {
	for _, c := range []struct{ x, want int }{
		{0, 0}, {511, 0}, {512, 1}, {1024, 1}, {1535, 1}, {1536, 2}, {api.One16, api.One26},
		{-512, 0}, {-513, -1}, {-1024, -1}, {-1536, -1}, {-1537, -2}, {-api.One16, -api.One26},
		{math.MaxInt, 1 << 53}, {math.MinInt, -1 << 53}, {math.MaxInt - 512, 1<<53 - 1}, {math.MinInt + 512, -1<<53 + 1},
	} {
		if x := fixed.To26(c.x); x != c.want {
			t.Errorf("To26(%d): %d, want %d", c.x, x, c.want)
		}
	}
}

func TestRoundingEverywhere(t *testing.T) {
	for _, x := range edges() {
		floor := new(big.Int).Div(number(x), number(64))
		ceil := new(big.Int).Neg(new(big.Int).Div(new(big.Int).Neg(number(x)), number(64)))
		for _, c := range []struct {
			name string
			have int
			want *big.Int
		}{
			{"Floor26", fixed.Floor26(x), floor},
			{"Ceil26", fixed.Ceil26(x), ceil},
			{"Round26", fixed.Round26(x), nearest(number(x), number(64))},
			{"To26", fixed.To26(x), nearest(number(x), number(1024))},
		} {
			if number(c.have).Cmp(c.want) != 0 {
				t.Errorf("%s(%d): %d, want %v", c.name, x, c.have, c.want)
			}
		}
	}
}

func TestTo16AndWhole(t *testing.T) {
	for _, c := range []struct {
		x           int
		to16, whole answer
	}{
		{0, answer{0, 0}, answer{0, 0}},
		{1, answer{1024, 0}, answer{65536, 0}},
		{-1, answer{-1024, 0}, answer{-65536, 0}},
		{100, answer{102400, 0}, answer{6553600, 0}},
		{1 << 15, answer{1 << 25, 0}, answer{most, 0}},
		{-1 << 15, answer{-1 << 25, 0}, answer{least, 0}},
		{1<<15 + 1, answer{1<<25 + 1024, 0}, answer{0, api.ErrOver}},
		{-1<<15 - 1, answer{-1<<25 - 1024, 0}, answer{0, api.ErrOver}},
		{1 << 21, answer{most, 0}, answer{0, api.ErrOver}},
		{-1 << 21, answer{least, 0}, answer{0, api.ErrOver}},
		{1<<21 + 1, answer{0, api.ErrOver}, answer{0, api.ErrOver}},
		{-1<<21 - 1, answer{0, api.ErrOver}, answer{0, api.ErrOver}},
		// These products would be 0, as ints that wrap round.
		{1 << 48, answer{0, api.ErrOver}, answer{0, api.ErrOver}},
		{1 << 54, answer{0, api.ErrOver}, answer{0, api.ErrOver}},
		{math.MaxInt, answer{0, api.ErrOver}, answer{0, api.ErrOver}},
		{math.MinInt, answer{0, api.ErrOver}, answer{0, api.ErrOver}},
	} {
		check(t, "To16", got(fixed.To16(c.x)), c.to16, c.x)
		check(t, "Whole", got(fixed.Whole(c.x)), c.whole, c.x)
	}
}

func TestWhatWasAddedIsTakenAway(t *testing.T) {
	for _, a := range mayEdges() {
		for _, b := range mayEdges() {
			sum, e := fixed.Add(a, b)
			if e != api.OK {
				continue
			}
			check(t, "Sub behind Add", got(fixed.Sub(sum, b)), answer{a, 0}, a, b)
		}
	}
}

func TestProductWithOneIsTheNumber(t *testing.T) {
	for _, x := range mayEdges() {
		check(t, "Mul", got(fixed.Mul(x, api.One16)), answer{x, 0}, x, api.One16)
		check(t, "Mul", got(fixed.Mul(api.One16, x)), answer{x, 0}, api.One16, x)
		check(t, "Div", got(fixed.Div(x, api.One16)), answer{x, 0}, x, api.One16)
	}
}

// TestNearestIsNoFurtherThanAHalf asks that twice the rest is no further from 0 than the divisor, and that of two as near the greater one is answered.
func TestNearestIsNoFurtherThanAHalf(t *testing.T) {
	for a := -200; a <= 200; a++ {
		for b := 1; b <= 33; b++ {
			q, e := fixed.Near(a, b)
			if twice := 2 * (a - q*b); e != api.OK || twice < -b || twice >= b {
				t.Errorf("Near(%d, %d): %d %d", a, b, q, e)
			}
			q, e = fixed.MulDiv(a, 1, -b)
			if twice := 2 * (-a - q*b); e != api.OK || twice < -b || twice >= b {
				t.Errorf("MulDiv(%d, 1, %d): %d %d", a, -b, q, e)
			}
		}
	}
}
