// Package affine is layer 2: matrices in 2.14, and boxes. See shared/doc/02-affine.md.
package affine

import (
	"serif/api"
	"serif/fixed"
)

// leastPart and mostPart are what two bytes with a sign can be: a font has no others.
const (
	leastPart = -(1 << 15)
	mostPart  = 1<<15 - 1
)

// mostArea is how many places a box has at most, where they are counted.
const mostArea = 1 << 40

// May tells whether all numbers of a matrix are in range.
func May(m api.Matrix) bool {
	return m == eachPart(m, func(n int) int { return min(max(n, leastPart), mostPart) })
}

// One is the matrix that lets a point be as it is.
func One() api.Matrix { return api.Matrix{XX: api.One14, YY: api.One14} }

// Apply is where a point is behind a matrix.
func Apply(m api.Matrix, x, y int) (int, int, api.Errno) {
	if !May(m) {
		return 0, 0, api.ErrArg
	}
	if !allMay(x, y) {
		return 0, 0, api.ErrOver
	}
	// Near refuses nothing here: of what may be, such sums are 2^47 at most.
	px, _ := fixed.Near(x*m.XX+y*m.YX, api.One14)
	py, _ := fixed.Near(x*m.XY+y*m.YY, api.One14)
	if !allMay(px, py) {
		return 0, 0, api.ErrOver
	}
	return px, py, api.OK
}

// Then is the matrix that does what m does, then what n does.
func Then(m, n api.Matrix) (api.Matrix, api.Errno) {
	if !May(m) || !May(n) {
		return api.Matrix{}, api.ErrArg
	}
	// Apply refuses nothing here: parts of a matrix are far below what a point may be.
	xx, xy, _ := Apply(n, m.XX, m.XY)
	yx, yy, _ := Apply(n, m.YX, m.YY)
	both := api.Matrix{XX: xx, XY: xy, YX: yx, YY: yy}
	if !May(both) {
		return api.Matrix{}, api.ErrOver
	}
	return both, api.OK
}

// Det is how many times greater a matrix makes areas, in 4.28.
func Det(m api.Matrix) int {
	if !May(m) {
		return 0
	}
	return m.XX*m.YY - m.XY*m.YX
}

// MayBox tells whether all numbers of a box are in range.
func MayBox(b api.Box) bool {
	return b == eachSide(b, dropOver, dropOver)
}

// Empty tells whether there is no place in a box.
func Empty(b api.Box) bool { return b.X0 >= b.X1 || b.Y0 >= b.Y1 }

// Join is the least plain box in which all places of both boxes are.
func Join(a, b api.Box) (api.Box, api.Errno) {
	if !MayBox(a) || !MayBox(b) {
		return api.Box{}, api.ErrOver
	}
	a, b = plain(a), plain(b)
	if a == (api.Box{}) {
		return b, api.OK
	}
	if b == (api.Box{}) {
		return a, api.OK
	}
	return between(a, b, least, most), api.OK
}

// Meet is the plain box of the places that are in both boxes.
func Meet(a, b api.Box) (api.Box, api.Errno) {
	if !MayBox(a) || !MayBox(b) {
		return api.Box{}, api.ErrOver
	}
	return plain(between(a, b, most, least)), api.OK
}

// Holds tells whether a place is in a box.
func Holds(b api.Box, x, y int) bool {
	return MayBox(b) && b.X0 <= x && x < b.X1 && b.Y0 <= y && y < b.Y1
}

// Shift is a box further on.
func Shift(b api.Box, dx, dy int) (api.Box, api.Errno) {
	if !MayBox(b) || !allMay(dx, dy) {
		return api.Box{}, api.ErrOver
	}
	if plain(b) == (api.Box{}) {
		return api.Box{}, api.OK
	}
	shifted := api.Box{X0: b.X0 + dx, Y0: b.Y0 + dy, X1: b.X1 + dx, Y1: b.Y1 + dy}
	if !MayBox(shifted) {
		return api.Box{}, api.ErrOver
	}
	return shifted, api.OK
}

// Pixels is the box of the pixels that a box in 1/64 pixels touches.
func Pixels(b api.Box) (api.Box, api.Errno) {
	if !MayBox(b) {
		return api.Box{}, api.ErrOver
	}
	return eachSide(plain(b), fixed.Floor26, fixed.Ceil26), api.OK
}

// Hull is from the least to the greatest number of each list: the greatest ones too, so that it may be empty.
func Hull(xs, ys []int) (api.Box, api.Errno) {
	if len(xs) != len(ys) {
		return api.Box{}, api.ErrArg
	}
	if !allMay(xs...) || !allMay(ys...) {
		return api.Box{}, api.ErrOver
	}
	if len(xs) == 0 {
		return api.Box{}, api.OK
	}
	return api.Box{X0: fold(least, xs...), Y0: fold(least, ys...), X1: fold(most, xs...), Y1: fold(most, ys...)}, api.OK
}

// Area is how many places a box has.
func Area(b api.Box) (int, api.Errno) {
	if !MayBox(b) {
		return 0, api.ErrOver
	}
	if plain(b) == (api.Box{}) {
		return 0, api.OK
	}
	width, height := b.X1-b.X0, b.Y1-b.Y0
	// The product of two sides that may be can be 2^64, which is no int.
	if height > mostArea/width {
		return 0, api.ErrOver
	}
	return width * height, api.OK
}

func allMay(numbers ...int) bool {
	for _, x := range numbers {
		if !fixed.May(x) {
			return false
		}
	}
	return true
}

func eachPart(m api.Matrix, do func(int) int) api.Matrix {
	return api.Matrix{XX: do(m.XX), XY: do(m.XY), YX: do(m.YX), YY: do(m.YY)}
}

// eachSide tells first sides from last ones, for what is rounded goes outwards at both.
func eachSide(b api.Box, first, last func(int) int) api.Box {
	return api.Box{X0: first(b.X0), Y0: first(b.Y0), X1: last(b.X1), Y1: last(b.Y1)}
}

func between(a, b api.Box, first, last func(int, int) int) api.Box {
	return api.Box{X0: first(a.X0, b.X0), Y0: first(a.Y0, b.Y0), X1: last(a.X1, b.X1), Y1: last(a.Y1, b.Y1)}
}

// dropOver makes a number that may not be another one, so that the box in which it stands is another box.
func dropOver(x int) int {
	if !fixed.May(x) {
		return 0
	}
	return x
}

// plain gives all empty boxes one form, so that they can be compared.
func plain(b api.Box) api.Box {
	if Empty(b) {
		return api.Box{}
	}
	return b
}

// least and most stand for the language's own min and max, which can't be handed on.
func least(a, b int) int { return min(a, b) }

func most(a, b int) int { return max(a, b) }

// fold asks for at least one number.
func fold(pick func(int, int) int, numbers ...int) int {
	picked := numbers[0]
	for _, x := range numbers {
		picked = pick(picked, x)
	}
	return picked
}
