// Package fixed is layer 1: numbers in 16.16 and 26.6. See shared/doc/01-fixed.md.
package fixed

import "serif/api"

// mostNear is how far from 0 a number handed to Near may be: twice as much still is an int.
const mostNear = 1 << 61

// highestRootBit is the highest bit that a root can have: 65536 times MaxFixed is 2^47, whose root is below 2^24.
const highestRootBit = 1 << 23

// bits26 is how many bits are behind the point in 26.6; bits16less26 is how many more there are in 16.16.
const (
	bits26       = 6
	bits16less26 = 10
)

// May tells whether a number is within MaxFixed of 0.
func May(x int) bool { return -api.MaxFixed <= x && x <= api.MaxFixed }

// Add is the sum of two numbers.
func Add(a, b int) (int, api.Errno) {
	return reckon(func() int { return a + b }, a, b)
}

// Sub is the difference of two numbers.
func Sub(a, b int) (int, api.Errno) {
	return reckon(func() int { return a - b }, a, b)
}

// Mul is the nearest product of two numbers in 16.16.
func Mul(a, b int) (int, api.Errno) { return MulDiv(a, b, api.One16) }

// Div is the nearest quotient of two numbers in 16.16.
func Div(a, b int) (int, api.Errno) { return MulDiv(api.One16, a, b) }

// MulDiv is the nearest to a b / c.
func MulDiv(a, b, c int) (int, api.Errno) {
	if c == 0 && allMay(a, b) {
		return 0, api.ErrArg
	}
	return reckon(func() int { return nearest(a*b, c) }, a, b, c)
}

// Near is the nearest to a / b, of numbers that may be further from 0 than others.
func Near(a, b int) (int, api.Errno) {
	if b < 1 {
		return 0, api.ErrArg
	}
	if a < -mostNear || a > mostNear || b > mostNear {
		return 0, api.ErrOver
	}
	return nearest(a, b), api.OK
}

// Root is the floor of the square root of a number in 16.16.
func Root(x int) (int, api.Errno) {
	if x < 0 && May(x) {
		return 0, api.ErrArg
	}
	return reckon(func() int { return floorRoot(api.One16 * x) }, x)
}

// Floor26 is the floor of a number in 26.6.
func Floor26(x int) int { return x >> bits26 }

// Ceil26 is the ceil of a number in 26.6.
func Ceil26(x int) int { return x>>bits26 + min(x&(api.One26-1), 1) }

// Round26 is the nearest whole number to one in 26.6.
func Round26(x int) int { return dropBits(x, bits26) }

// To26 is the nearest number in 26.6 to one in 16.16.
func To26(x int) int { return dropBits(x, bits16less26) }

// To16 is a number in 26.6 as one in 16.16.
func To16(x int) (int, api.Errno) { return times(x, api.One16/api.One26) }

// Whole is a whole number as one in 16.16.
func Whole(x int) (int, api.Errno) { return times(x, api.One16) }

func allMay(numbers ...int) bool {
	for _, x := range numbers {
		if !May(x) {
			return false
		}
	}
	return true
}

// reckon asks for the result only when all numbers that it is made of may be: then nothing on the way there is too large for an int.
func reckon(result func() int, numbers ...int) (int, api.Errno) {
	if !allMay(numbers...) {
		return 0, api.ErrOver
	}
	x := result()
	if !May(x) {
		return 0, api.ErrOver
	}
	return x, api.OK
}

// split takes the sign off a / b: both without their signs, and what puts the quotient's sign on again.
func split(a, b int) (int, int, func(int) int) {
	keep := func(size int) int { return size }
	turn := func(size int) int { return -size }
	sizeOf := func(x int) int { return max(x, -x) }
	if (a < 0) != (b < 0) {
		return sizeOf(a), sizeOf(b), turn
	}
	return sizeOf(a), sizeOf(b), keep
}

// nearest looks at the sign where two numbers are as near: the greater one is further from 0 only above 0.
func nearest(a, b int) int {
	n, d, sign := split(a, b)
	size, rest := n/d, n%d
	if 2*rest > d || 2*rest == d && sign(1) > 0 {
		size++
	}
	return sign(size)
}

// floorRoot tries bit by bit, for a root of floats would be rounded.
func floorRoot(x int) int {
	root := 0
	for bit := highestRootBit; bit > 0; bit >>= 1 {
		if next := root | bit; next*next <= x {
			root = next
		}
	}
	return root
}

// dropBits adds the highest bit that is dropped behind the shift, not a half ahead of it, which would wrap round at the greatest int.
func dropBits(x, n int) int { return x>>n + x>>(n-1)&1 }

// times divides the limit, for the product may be too large for an int.
func times(x, k int) (int, api.Errno) {
	if x < -api.MaxFixed/k || x > api.MaxFixed/k {
		return 0, api.ErrOver
	}
	return x * k, api.OK
}
