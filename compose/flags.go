package compose

import (
	"slices"

	"serif/affine"
	"serif/api"
)

// Bits of a part's flags, from the lowest one on: its arguments have 2 bytes, and are a step; its matrix has one number; another part follows; the matrix has two numbers, or four; the step is behind the matrix, or ahead of it. The others may be any.
const (
	wide = 1 << iota
	steps
	_
	oneNumber
	_
	moreParts
	twoNumbers
	fourNumbers
	_
	_
	_
	turned
	unturned
)

// matrixBits tell how many numbers a matrix has.
const matrixBits = oneNumber | twoNumbers | fourNumbers

// form is which of the matrixBits is set, and how many numbers a matrix then has.
type form struct {
	bit     int
	numbers int
}

// find is the first form for which that is so, or false. The shortest form is the first one.
func find(is func(f form) bool) (form, bool) {
	forms := []form{{0, 0}, {oneNumber, 1}, {twoNumbers, 2}, {fourNumbers, 4}}
	i := slices.IndexFunc(forms, is)
	if i < 0 {
		return form{}, false
	}
	return forms[i], true
}

// formOf looks up a matrix' form by its bits. Where more than one is set, there is none.
func formOf(flags int) (form, bool) {
	return find(func(f form) bool { return f.bit == flags&matrixBits })
}

// shortest is the form that tells a matrix by the fewest numbers: four of them tell each.
func shortest(m api.Matrix) form {
	f, _ := find(func(f form) bool { return matrixOf(numbersOf(m, f.numbers)...) == m })
	return f
}

// matrixOf is the matrix that as many numbers tell.
func matrixOf(numbers ...int) api.Matrix {
	switch len(numbers) {
	case 1:
		return api.Matrix{XX: numbers[0], YY: numbers[0]}
	case 2:
		return api.Matrix{XX: numbers[0], YY: numbers[1]}
	case 4:
		return api.Matrix{XX: numbers[0], XY: numbers[1], YX: numbers[2], YY: numbers[3]}
	}
	return affine.One()
}

// numbersOf is the n numbers that tell a matrix, if so many can.
func numbersOf(m api.Matrix, n int) []int {
	if n <= 2 {
		return []int{m.XX, m.YY}[:n]
	}
	return []int{m.XX, m.XY, m.YX, m.YY}
}

// flagsOf is a part's flags, as if none followed.
func flagsOf(p api.Part) int {
	flags := shortest(p.M).bit
	least, most := leastI8, mostI8
	switch {
	case p.Matched:
		least, most = 0, mostU8
	case p.Turned:
		flags |= steps | turned
	default:
		flags |= steps | unturned
	}
	arguments := argumentsOf(p)
	if !within(least, most, arguments[:]...) {
		flags |= wide
	}
	return flags
}
