package type2_test

import (
	"serif/api"
	"serif/stack"
)

// plain goes through a charstring by the chapter's words: call by call, with one list of points in which a move is told by its kind.
type plain struct {
	p       api.Program
	s       *stack.Stack
	steps   int
	depth   int
	stems   int
	all     bool
	width   int
	x, y    int
	moved   bool
	points  []api.Point // of kind 0: a move
	ended   bool
	reached map[string]int
}

// asIsPlain is what Run should answer; reached counts what was come across.
func asIsPlain(p api.Program, reached map[string]int) (api.Drawn, api.Errno) {
	if abs(p.Default) > 1<<31 || abs(p.Nominal) > 1<<31 {
		return api.Drawn{}, api.ErrOver
	}
	m := &plain{p: p, s: stack.New(p.Draws), width: p.Default, reached: reached}
	if e := m.through(p.Code); e != api.OK {
		return api.Drawn{}, e
	}
	if !m.ended {
		return api.Drawn{}, api.ErrChar
	}
	d := api.Drawn{Width: m.width, Steps: m.steps}
	var c []api.Point
	for i, p := range m.points {
		if p.Kind == 0 {
			p.Kind = api.PointOn
			c = nil
		}
		c = append(c, p)
		if (i+1 == len(m.points) || m.points[i+1].Kind == 0) && len(c) >= 2 {
			d.Outline = append(d.Outline, c)
		}
	}
	if len(d.Outline) > 256 {
		return api.Drawn{}, api.ErrPoints
	}
	return d, api.OK
}

func abs(x int) int {
	if x < 0 {
		return -x
	}
	return x
}

// through goes through bytes until they go back, or the end is there.
func (m *plain) through(b []byte) api.Errno {
	for len(b) > 0 {
		if m.steps >= 20000 {
			return api.ErrSteps
		}
		m.steps++
		x, n := number(b)
		if n < 0 {
			return api.ErrChar
		}
		if n > 0 {
			if e := m.s.Push(x); e != api.OK {
				return e
			}
			b = b[n:]
			continue
		}
		op := int(b[0])
		b = b[1:]
		if op == 12 {
			if len(b) == 0 {
				return api.ErrChar
			}
			op = 1200 + int(b[0])
			b = b[1:]
		}
		if op == 11 {
			if m.depth == 0 {
				return api.ErrChar
			}
			m.count("back")
			return api.OK
		}
		e := m.operator(op)
		if e != api.OK || m.ended {
			return e
		}
		if op == 19 || op == 20 {
			skip := m.stems / 8
			if m.stems%8 > 0 {
				skip++
			}
			if skip > len(b) {
				return api.ErrChar
			}
			b = b[skip:]
		}
	}
	return api.ErrChar
}

func (m *plain) count(what string) { m.reached[what]++ }

// number is a number, and its length; 0, if it is none; -1, if it does not end.
func number(b []byte) (int, int) {
	v := int(b[0])
	need := 1
	switch {
	case v < 32 && v != 28:
		return 0, 0
	case v == 28:
		need = 3
	case v == 255:
		need = 5
	case v >= 247:
		need = 2
	}
	if len(b) < need {
		return 0, -1
	}
	switch {
	case v == 28:
		return 65536 * int(int16(int(b[1])*256+int(b[2]))), 3
	case v == 255:
		return int(int32(uint32(b[1])*16777216 + uint32(b[2])*65536 + uint32(b[3])*256 + uint32(b[4]))), 5
	case v < 247:
		return 65536 * (v - 139), 1
	case v < 251:
		return 65536 * ((v-247)*256 + int(b[1]) + 108), 2
	}
	return 65536 * (-(v-251)*256 - int(b[1]) - 108), 2
}

func (m *plain) operator(op int) api.Errno {
	switch op {
	case 10, 29:
		list := m.p.Local
		if op == 29 {
			list = m.p.Global
		}
		x, e := m.s.Pop()
		if e != api.OK {
			return e
		}
		b := 107
		if len(list) >= 1240 {
			b = 1131
		}
		if len(list) >= 33900 {
			b = 32768
		}
		x -= (x%65536 + 65536) % 65536
		x = x/65536 + b
		if x < 0 || x > len(list)-1 || m.depth == 10 {
			return api.ErrSubr
		}
		m.count("call")
		m.depth++
		e = m.through(list[x])
		m.depth--
		return e
	}
	if op >= 1200 && stack.IsOp(op-1200) {
		return m.s.Do(op - 1200)
	}
	return m.takesAll(op)
}

func (m *plain) takesAll(op int) api.Errno {
	known := map[int]bool{1: true, 3: true, 18: true, 23: true, 19: true, 20: true, 21: true, 22: true, 4: true, 14: true, 5: true, 6: true, 7: true, 8: true, 24: true, 25: true, 26: true, 27: true, 30: true, 31: true, 1234: true, 1235: true, 1236: true, 1237: true}
	if !known[op] {
		return api.ErrChar
	}
	l := m.s.Take()
	n := len(l)
	first := !m.all
	m.all = true
	has := false
	switch op {
	case 1, 3, 18, 23, 19, 20:
		has = n%2 == 1
	case 21:
		has = n == 3
	case 22, 4:
		has = n == 2
	case 14:
		has = n == 1 || n == 5
	}
	if first && has {
		m.width = m.p.Nominal + l[0]
		if abs(m.width) > 1<<31 {
			return api.ErrOver
		}
		m.count("width")
		l = l[1:]
		n--
	}
	fits := false
	switch op {
	case 1, 3, 18, 23, 19, 20:
		fits = n%2 == 0
	case 21:
		fits = n == 2
	case 22, 4:
		fits = n == 1
	case 14:
		if n == 4 {
			return api.ErrSeac
		}
		fits = n == 0
	case 5:
		fits = n%2 == 0 && n > 0
	case 6, 7:
		fits = n > 0
	case 8:
		fits = n%6 == 0 && n > 0
	case 24:
		fits = n%6 == 2 && n > 2
	case 25:
		fits = n%2 == 0 && n > 6
	case 26, 27, 30, 31:
		fits = n%4 < 2 && n > 3
	case 1234:
		fits = n == 7
	case 1235:
		fits = n == 13
	case 1236:
		fits = n == 9
	case 1237:
		fits = n == 11
	}
	if !fits {
		return api.ErrChar
	}
	switch op {
	case 1, 3, 18, 23, 19, 20:
		m.stems += n / 2
		if m.stems > 96 {
			return api.ErrChar
		}
	case 14:
		m.ended = true
	default:
		m.count("drawn")
		return m.put(stepsOf(op, l))
	}
	return api.OK
}

// a step is a kind (0: a move), and how far it goes.
type step struct {
	kind, dx, dy int
}

const (
	on    = api.PointOn
	cubic = api.PointCubic
)

// stepsOf is what an operator of that many numbers puts.
func stepsOf(op int, l []int) []step {
	var s []step
	line := func(dx, dy int) { s = append(s, step{on, dx, dy}) }
	curve := func(a, b, c, d, e, f int) { s = append(s, step{cubic, a, b}, step{cubic, c, d}, step{on, e, f}) }
	n := len(l)
	switch op {
	case 21:
		s = []step{{0, l[0], l[1]}}
	case 22:
		s = []step{{0, l[0], 0}}
	case 4:
		s = []step{{0, 0, l[0]}}
	case 6, 7:
		for i, d := range l {
			if (i%2 == 0) == (op == 6) {
				line(d, 0)
			} else {
				line(0, d)
			}
		}
	case 5, 8, 24, 25, 1235:
		for len(l) >= 2 {
			asCurve := op == 8 || op == 24 && len(l) > 2 || op == 25 && len(l) == 6 || op == 1235
			if asCurve && len(l) >= 6 {
				curve(l[0], l[1], l[2], l[3], l[4], l[5])
				l = l[6:]
			} else {
				line(l[0], l[1])
				l = l[2:]
			}
		}
	case 27, 26:
		odd := 0
		if n%4 == 1 {
			odd = l[0]
			l = l[1:]
		}
		for i := 0; i < len(l); i += 4 {
			if op == 27 {
				curve(l[i], odd, l[i+1], l[i+2], l[i+3], 0)
			} else {
				curve(odd, l[i], l[i+1], l[i+2], 0, l[i+3])
			}
			odd = 0
		}
	case 30, 31:
		for i := 0; i+4 <= n; i += 4 {
			odd := 0
			if i+5 == n {
				odd = l[n-1]
			}
			if (i%8 == 0) == (op == 31) {
				curve(l[i], 0, l[i+1], l[i+2], odd, l[i+3])
			} else {
				curve(0, l[i], l[i+1], l[i+2], l[i+3], odd)
			}
		}
	case 1234:
		curve(l[0], 0, l[1], l[2], l[3], 0)
		curve(l[4], 0, l[5], -l[2], l[6], 0)
	case 1236:
		curve(l[0], l[1], l[2], l[3], l[4], 0)
		curve(l[5], 0, l[6], l[7], l[8], -l[1]-l[3]-l[7])
	case 1237:
		x := l[0] + l[2] + l[4] + l[6] + l[8]
		y := l[1] + l[3] + l[5] + l[7] + l[9]
		curve(l[0], l[1], l[2], l[3], l[4], l[5])
		if abs(x) > abs(y) {
			curve(l[6], l[7], l[8], l[9], l[10], -y)
		} else {
			curve(l[6], l[7], l[8], l[9], -x, l[10])
		}
	}
	return s
}

func (m *plain) put(steps []step) api.Errno {
	for _, s := range steps {
		if s.kind == 0 {
			m.moved = true
		}
		if !m.moved {
			return api.ErrChar
		}
		for _, x := range []int{s.dx, m.x + s.dx, s.dy, m.y + s.dy} {
			if abs(x) > 1<<31 {
				return api.ErrOver
			}
		}
		m.x, m.y = m.x+s.dx, m.y+s.dy
		m.points = append(m.points, api.Point{X: m.x, Y: m.y, Kind: s.kind})
		if len(m.points) > 4096 {
			return api.ErrPoints
		}
	}
	return api.OK
}
