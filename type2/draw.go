package type2

import (
	"slices"

	"serif/api"
)

func (m *machine) move(l ...int) api.Errno { return m.pen.move(l[0], l[1]) }

func (m *machine) moveAcross(l ...int) api.Errno { return m.pen.move(l[0], 0) }

func (m *machine) moveUp(l ...int) api.Errno { return m.pen.move(0, l[0]) }

func (m *machine) lines(l ...int) api.Errno {
	return each(l, numbersOfStep, func(s ...int) api.Errno { return m.pen.line(s[0], s[1]) })
}

func (m *machine) linesAcross(l ...int) api.Errno { return m.linesInTurn(true, l) }

func (m *machine) linesUp(l ...int) api.Errno { return m.linesInTurn(false, l) }

// linesInTurn draws one line across, the next one up, and so on.
func (m *machine) linesInTurn(across bool, l []int) api.Errno {
	return each(l, 1, func(s ...int) api.Errno {
		level := across
		across = !across
		if level {
			return m.pen.line(s[0], 0)
		}
		return m.pen.line(0, s[0])
	})
}

func (m *machine) curves(l ...int) api.Errno {
	return each(l, numbersOfCurve, func(c ...int) api.Errno {
		return m.pen.curve(c[0], c[1], c[2], c[3], c[4], c[5])
	})
}

func (m *machine) curvesThenLine(l ...int) api.Errno {
	line := len(l) - numbersOfStep
	if e := m.curves(l[:line]...); e != api.OK {
		return e
	}
	return m.lines(l[line:]...)
}

func (m *machine) linesThenCurve(l ...int) api.Errno {
	curve := len(l) - numbersOfCurve
	if e := m.lines(l[:curve]...); e != api.OK {
		return e
	}
	return m.curves(l[curve:]...)
}

// bendsUp draws curves that begin and end upright, but the first one, which may begin otherwise.
func (m *machine) bendsUp(l ...int) api.Errno {
	dx, bends := oddFirst(l)
	return each(bends, numbersOfBend, func(c ...int) api.Errno {
		first := dx
		dx = 0
		return m.pen.curve(first, c[0], c[1], c[2], 0, c[3])
	})
}

// bendsAcross draws curves that begin and end level, but the first one, which may begin otherwise.
func (m *machine) bendsAcross(l ...int) api.Errno {
	dy, bends := oddFirst(l)
	return each(bends, numbersOfBend, func(c ...int) api.Errno {
		first := dy
		dy = 0
		return m.pen.curve(c[0], first, c[1], c[2], c[3], 0)
	})
}

func (m *machine) turnsUp(l ...int) api.Errno { return m.turnsInTurn(false, l) }

func (m *machine) turnsAcross(l ...int) api.Errno { return m.turnsInTurn(true, l) }

// turnsInTurn draws one curve that begins level and ends upright, the next one the other way round, and so on; but the last one, which may end otherwise.
func (m *machine) turnsInTurn(across bool, l []int) api.Errno {
	last, turns := oddLast(l)
	left := len(turns)
	return each(turns, numbersOfBend, func(c ...int) api.Errno {
		left -= numbersOfBend
		end := 0
		if left == 0 {
			end = last
		}
		level := across
		across = !across
		if level {
			return m.pen.curve(c[0], 0, c[1], c[2], end, c[3])
		}
		return m.pen.curve(0, c[0], c[1], c[2], c[3], end)
	})
}

// flexFlat is two curves that begin and end level, and at the same height.
func (m *machine) flexFlat(l ...int) api.Errno {
	return m.curves(l[0], 0, l[1], l[2], l[3], 0, l[4], 0, l[5], -l[2], l[6], 0)
}

// flexFull is two curves whose steps are all told. The last number says from which size on they are to be seen: they always are.
func (m *machine) flexFull(l ...int) api.Errno {
	return m.curves(l[:2*numbersOfCurve]...)
}

// flexBack is two curves that end at the height at which they begin.
func (m *machine) flexBack(l ...int) api.Errno {
	return m.curves(l[0], l[1], l[2], l[3], l[4], 0, l[5], 0, l[6], l[7], l[8], -(l[1] + l[3] + l[7]))
}

// flexEither is two curves that end at the height at which they begin, if they lead across, or else below or above that place.
func (m *machine) flexEither(l ...int) api.Errno {
	steps, last := l[:len(l)-1], l[len(l)-1]
	x, y := 0, 0
	for s := range slices.Chunk(steps, numbersOfStep) {
		x, y = x+s[0], y+s[1]
	}
	if max(x, -x) > max(y, -y) {
		return m.curves(append(slices.Clone(steps), last, -y)...)
	}
	return m.curves(append(slices.Clone(steps), -x, last)...)
}

// each hands on so many numbers at a time, until the first error.
func each(l []int, size int, do func(part ...int) api.Errno) api.Errno {
	for part := range slices.Chunk(l, size) {
		if e := do(part...); e != api.OK {
			return e
		}
	}
	return api.OK
}

// oddFirst is the number that stands ahead of the bends, or 0, and the bends.
func oddFirst(l []int) (int, []int) {
	if len(l)%numbersOfBend == 0 {
		return 0, l
	}
	return l[0], l[1:]
}

// oddLast is the number that stands behind the bends, or 0, and the bends.
func oddLast(l []int) (int, []int) {
	last := len(l) - 1
	if len(l)%numbersOfBend == 0 {
		return 0, l
	}
	return l[last], l[:last]
}
