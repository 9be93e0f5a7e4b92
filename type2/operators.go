package type2

import "serif/api"

// How many numbers tell a stem, a step, a curve of three steps, a curve (a bend) of which two numbers are left out since they are 0, and two glyphs put together.
const (
	numbersOfStem  = 2
	numbersOfStep  = 2
	numbersOfCurve = 6
	numbersOfBend  = 4
	numbersOfSeac  = 4
)

// operator is one that the stack does not do: whether the width may stand ahead of its numbers, of how many of these it can be (it takes all that there are; without fits, none), and what it does.
type operator struct {
	code int
	wide bool
	fits func(n int) bool
	do   func(m *machine, l ...int) api.Errno
}

// operators has functions that know how many numbers fit, so it is made once for a charstring.
func operators() []operator {
	return []operator{
		{1, true, from(0, numbersOfStem), (*machine).stem},
		{3, true, from(0, numbersOfStem), (*machine).stem},
		{18, true, from(0, numbersOfStem), (*machine).stem},
		{23, true, from(0, numbersOfStem), (*machine).stem},
		{19, true, from(0, numbersOfStem), (*machine).mask},
		{20, true, from(0, numbersOfStem), (*machine).mask},
		{21, true, only(numbersOfStep), (*machine).move},
		{22, true, only(1), (*machine).moveAcross},
		{4, true, only(1), (*machine).moveUp},
		{14, true, only(0, numbersOfSeac), (*machine).end},
		{5, false, from(numbersOfStep, numbersOfStep), (*machine).lines},
		{6, false, from(1, 1), (*machine).linesAcross},
		{7, false, from(1, 1), (*machine).linesUp},
		{8, false, from(numbersOfCurve, numbersOfCurve), (*machine).curves},
		{24, false, from(numbersOfCurve+numbersOfStep, numbersOfCurve), (*machine).curvesThenLine},
		{25, false, from(numbersOfStep+numbersOfCurve, numbersOfStep), (*machine).linesThenCurve},
		{26, false, orOneMore(from(numbersOfBend, numbersOfBend)), (*machine).bendsUp},
		{27, false, orOneMore(from(numbersOfBend, numbersOfBend)), (*machine).bendsAcross},
		{30, false, orOneMore(from(numbersOfBend, numbersOfBend)), (*machine).turnsUp},
		{31, false, orOneMore(from(numbersOfBend, numbersOfBend)), (*machine).turnsAcross},
		{escaped + 34, false, only(7), (*machine).flexFlat},
		{escaped + 35, false, only(13), (*machine).flexFull},
		{escaped + 36, false, only(9), (*machine).flexBack},
		{escaped + 37, false, only(11), (*machine).flexEither},
		{10, false, nil, (*machine).callLocal},
		{29, false, nil, (*machine).callGlobal},
		{11, false, nil, (*machine).back},
	}
}

// from tells of a count whether it is the least one, or so many more, once or more often.
func from(least, each int) func(n int) bool {
	return func(n int) bool { return n >= least && (n-least)%each == 0 }
}

// only tells of a count whether it is one of these.
func only(counts ...int) func(n int) bool {
	return func(n int) bool {
		for _, count := range counts {
			if n == count {
				return true
			}
		}
		return false
	}
}

// orOneMore tells of a count whether it fits, or has one more than one that does.
func orOneMore(fits func(n int) bool) func(n int) bool {
	return func(n int) bool { return fits(n) || fits(n-1) }
}
