package stack

import (
	"slices"

	"serif/api"
	"serif/fixed"
)

// bits16 is how many bits are behind the point in 16.16; mostOfDraw is the greatest number that a draw becomes; 1 is the least.
const (
	bits16     = 16
	mostOfDraw = 1 << 16
)

// operatorCount is how many operators there are.
const operatorCount = 20

// operator is one of the stack's: how many numbers it takes off the top, whether it leaves one more than these, and what it leaves in their place, by one of three functions. The last one is handed the stack as it is ahead of that, and changes nothing where it answers an error.
type operator struct {
	op    int
	takes int
	grows bool
	one   func(a int) (int, api.Errno)
	two   func(a, b int) (int, api.Errno)
	any   func(s *Stack, taken ...int) ([]int, api.Errno)
}

func operators() [operatorCount]operator {
	return [...]operator{
		{op: api.OpAbs, takes: 1, one: size},
		{op: api.OpNeg, takes: 1, one: turned},
		{op: api.OpSqrt, takes: 1, one: fixed.Root},
		{op: api.OpNot, takes: 1, one: isZero},
		{op: api.OpAdd, takes: 2, two: fixed.Add},
		{op: api.OpSub, takes: 2, two: fixed.Sub},
		{op: api.OpMul, takes: 2, two: fixed.Mul},
		{op: api.OpDiv, takes: 2, two: fixed.Div},
		{op: api.OpAnd, takes: 2, two: both},
		{op: api.OpOr, takes: 2, two: either},
		{op: api.OpEq, takes: 2, two: same},
		{op: api.OpDrop, takes: 1, any: (*Stack).drop},
		{op: api.OpDup, takes: 1, grows: true, any: (*Stack).double},
		{op: api.OpExch, takes: 2, any: (*Stack).exchange},
		{op: api.OpIfElse, takes: 4, any: (*Stack).choose},
		{op: api.OpIndex, takes: 1, any: (*Stack).index},
		{op: api.OpRoll, takes: 2, any: (*Stack).roll},
		{op: api.OpPut, takes: 2, any: (*Stack).put},
		{op: api.OpGet, takes: 1, any: (*Stack).get},
		{op: api.OpRandom, takes: 0, grows: true, any: (*Stack).random},
	}
}

func find(op int) (operator, bool) {
	all := operators()
	i := slices.IndexFunc(all[:], func(o operator) bool { return o.op == op })
	if i < 0 {
		return operator{}, false
	}
	return all[i], true
}

// result is what the operator leaves of the numbers that it takes.
func (o operator) result(s *Stack, taken ...int) ([]int, api.Errno) {
	if o.any != nil {
		return o.any(s, taken...)
	}
	if o.one != nil {
		x, e := o.one(taken[0])
		return []int{x}, e
	}
	x, e := o.two(taken[0], taken[1])
	return []int{x}, e
}

func size(a int) (int, api.Errno) { return max(a, -a), api.OK }

func turned(a int) (int, api.Errno) { return -a, api.OK }

func isZero(a int) (int, api.Errno) { return truth(a == 0) }

func both(a, b int) (int, api.Errno) { return truth(a != 0 && b != 0) }

func either(a, b int) (int, api.Errno) { return truth(a != 0 || b != 0) }

func same(a, b int) (int, api.Errno) { return truth(a == b) }

// truth is 1 in 16.16 of what is true, or 0.
func truth(is bool) (int, api.Errno) {
	if is {
		return api.One16, api.OK
	}
	return 0, api.OK
}

func (s *Stack) drop(...int) ([]int, api.Errno) { return nil, api.OK }

func (s *Stack) double(taken ...int) ([]int, api.Errno) {
	return []int{taken[0], taken[0]}, api.OK
}

func (s *Stack) exchange(taken ...int) ([]int, api.Errno) {
	return []int{taken[1], taken[0]}, api.OK
}

func (s *Stack) choose(taken ...int) ([]int, api.Errno) {
	if taken[2] <= taken[3] {
		return []int{taken[0]}, api.OK
	}
	return []int{taken[1]}, api.OK
}

// index is the number so many below the one that is the top one when the index is taken away.
func (s *Stack) index(taken ...int) ([]int, api.Errno) {
	below := s.below(taken...)
	at := len(below) - 1 - max(whole(taken[0]), 0)
	if at < 0 {
		return nil, api.ErrStack
	}
	return []int{below[at]}, api.OK
}

// roll turns numbers round in their place, below those that it takes.
func (s *Stack) roll(taken ...int) ([]int, api.Errno) {
	below := s.below(taken...)
	n, up := whole(taken[0]), whole(taken[1])
	if n < 0 || n > len(below) {
		return nil, api.ErrStack
	}
	rolled := below[len(below)-n:]
	old := slices.Clone(rolled)
	for i, x := range old {
		rolled[modulo(i+up, n)] = x
	}
	return nil, api.OK
}

func (s *Stack) put(taken ...int) ([]int, api.Errno) {
	at := whole(taken[1])
	if !isPlace(at) {
		return nil, api.ErrStack
	}
	s.store[at] = taken[0]
	return nil, api.OK
}

func (s *Stack) get(taken ...int) ([]int, api.Errno) {
	at := whole(taken[0])
	if !isPlace(at) {
		return nil, api.ErrStack
	}
	return []int{s.store[at]}, api.OK
}

// random uses a draw. Without one the answer is as great as can be.
func (s *Stack) random(...int) ([]int, api.Errno) {
	if len(s.draws) == 0 {
		return []int{mostOfDraw}, api.OK
	}
	next := s.draws[0]
	s.draws = s.draws[1:]
	return []int{modulo(next, mostOfDraw) + 1}, api.OK
}

// below is the stack's numbers below those that an operator takes.
func (s *Stack) below(taken ...int) []int { return s.numbers[:len(s.numbers)-len(taken)] }

// whole is a number's whole part: its floor, also below 0.
func whole(x int) int { return x >> bits16 }

// modulo is from 0 up to n, below 0 too.
func modulo(x, n int) int { return (x%n + n) % n }

func isPlace(at int) bool { return 0 <= at && at < api.MaxStore }
