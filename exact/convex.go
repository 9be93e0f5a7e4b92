package exact

import (
	"slices"

	"serif/api"
	"serif/flatten"
)

// Convex tells whether closed lines are one ring that goes round once, and never turns the other way.
func Convex(l [][]api.Dot) bool {
	if flatten.May(l) != api.OK || len(l) != 1 || len(l[0]) < leastDots {
		return false
	}
	var steps []api.Dot
	for s := range linesOf(l) {
		steps = append(steps, api.Dot{X: s[1].X - s[0].X, Y: s[1].Y - s[0].Y})
	}
	xs := each(steps, func(s, _ api.Dot) int { return s.X })
	ys := each(steps, func(s, _ api.Dot) int { return s.Y })
	turns := each(steps, func(s, next api.Dot) int { return s.X*next.Y - next.X*s.Y })
	return !slices.Contains(steps, api.Dot{}) && oneWay(turns...) && changes(xs...) <= mostChange && changes(ys...) <= mostChange
}

// each is a number of each step and the one behind it, in the ring.
func each(steps []api.Dot, number func(s, next api.Dot) int) []int {
	var all []int
	for i, s := range steps {
		all = append(all, number(s, steps[(i+1)%len(steps)]))
	}
	return all
}

// oneWay tells whether numbers are all at least 0, or all at most 0, not all 0.
func oneWay(numbers ...int) bool {
	return (slices.Min(numbers) < 0) != (slices.Max(numbers) > 0)
}

// changes is how often numbers of a ring change between below 0 and above 0.
func changes(numbers ...int) int {
	var signed []int
	for _, x := range numbers {
		if x != 0 {
			signed = append(signed, x)
		}
	}
	n := 0
	for i, x := range signed {
		if (x < 0) != (signed[(i+1)%len(signed)] < 0) {
			n++
		}
	}
	return n
}
