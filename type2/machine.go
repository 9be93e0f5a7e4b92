package type2

import (
	"slices"

	"serif/api"
	"serif/fixed"
	"serif/stack"
)

// bits16 is how many bits are behind the point in 16.16.
const bits16 = 16

// machine is a charstring that is gone through.
type machine struct {
	program   api.Program
	operators []operator
	numbers   *stack.Stack
	calls     []place // the last one is gone through, the first one is the charstring itself
	steps     int
	begun     bool // an operator that takes all numbers was there: the width is known
	width     int
	stems     int
	pen       pen
	ended     bool
}

// step goes through the next token.
func (m *machine) step() api.Errno {
	here := m.here()
	if here.left() == 0 {
		return api.ErrChar
	}
	if m.steps == api.MaxSteps {
		return api.ErrSteps
	}
	m.steps++
	t, e := here.next()
	if e != api.OK {
		return e
	}
	if t.isNumber {
		return m.numbers.Push(t.number)
	}
	return m.operate(t.operator)
}

func (m *machine) here() *place { return &m.calls[len(m.calls)-1] }

// operate does what an operator says: one of the list's, or one of the stack's.
func (m *machine) operate(code int) api.Errno {
	i := slices.IndexFunc(m.operators, func(o operator) bool { return o.code == code })
	switch {
	case i >= 0 && m.operators[i].fits == nil:
		return m.operators[i].do(m)
	case i >= 0:
		return m.takeAll(m.operators[i])
	case code >= escaped && stack.IsOp(code-escaped):
		return m.numbers.Do(code - escaped)
	}
	return api.ErrChar
}

// takeAll hands an operator all numbers, but the width, which may be ahead of those of the first such one.
func (m *machine) takeAll(o operator) api.Errno {
	l := m.numbers.Take()
	if !m.begun && o.wide && !o.fits(len(l)) && o.fits(len(l)-1) {
		width, e := fixed.Add(m.program.Nominal, l[0])
		if e != api.OK {
			return e
		}
		m.width, l = width, l[1:]
	}
	m.begun = true
	if !o.fits(len(l)) {
		return api.ErrChar
	}
	return o.do(m, l...)
}

func (m *machine) callLocal(...int) api.Errno { return m.call(m.program.Local) }

func (m *machine) callGlobal(...int) api.Errno { return m.call(m.program.Global) }

// call goes through one of these subroutines next.
func (m *machine) call(list [][]byte) api.Errno {
	x, e := m.numbers.Pop()
	if e != api.OK {
		return e
	}
	i := x>>bits16 + Bias(len(list))
	if i < 0 || i >= len(list) || len(m.calls) > api.MaxCalls {
		return api.ErrSubr
	}
	m.calls = append(m.calls, place{code: list[i]})
	return api.OK
}

// back goes on behind the call.
func (m *machine) back(...int) api.Errno {
	if len(m.calls) == 1 {
		return api.ErrChar
	}
	m.calls = m.calls[:len(m.calls)-1]
	return api.OK
}

// stem counts stems, of two numbers each.
func (m *machine) stem(l ...int) api.Errno {
	m.stems += len(l) / numbersOfStem
	if m.stems > api.MaxStems {
		return api.ErrChar
	}
	return api.OK
}

// mask counts stems, and skips a bit for each one that is there by now.
func (m *machine) mask(l ...int) api.Errno {
	if e := m.stem(l...); e != api.OK {
		return e
	}
	return m.here().skip((m.stems + bitsOfByte - 1) / bitsOfByte)
}

// end is the end. Numbers that are left are two glyphs' that would be put together.
func (m *machine) end(l ...int) api.Errno {
	if len(l) > 0 {
		return api.ErrSeac
	}
	m.ended = true
	return api.OK
}
