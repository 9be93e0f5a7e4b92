package stack_test

import (
	"math"
	"math/big"
	"math/rand"
	"slices"
	"sync"
	"testing"

	"serif/api"
	"serif/fixed"
	"serif/stack"
)

const one = api.One16

// needs is how many numbers each operator takes off the top, as chapter 17 lists them.
var needs = map[int]int{
	api.OpAbs: 1, api.OpNeg: 1, api.OpSqrt: 1, api.OpNot: 1, api.OpDrop: 1, api.OpDup: 1, api.OpIndex: 1, api.OpGet: 1,
	api.OpAdd: 2, api.OpSub: 2, api.OpMul: 2, api.OpDiv: 2, api.OpAnd: 2, api.OpOr: 2, api.OpEq: 2, api.OpExch: 2, api.OpRoll: 2, api.OpPut: 2,
	api.OpIfElse: 4, api.OpRandom: 0,
}

func allOps() []int {
	var l []int
	for op := range needs {
		l = append(l, op)
	}
	slices.Sort(l)
	return l
}

// plain is a stack by the chapter's words.
type plain struct {
	numbers []int
	store   [32]int
	draws   []int
}

func (p *plain) push(x int) api.Errno {
	if x > 1<<31 || x < -1<<31 {
		return api.ErrOver
	}
	if len(p.numbers) >= 48 {
		return api.ErrStack
	}
	p.numbers = append(p.numbers, x)
	return api.OK
}

func (p *plain) pop() (int, api.Errno) {
	n := len(p.numbers)
	if n == 0 {
		return 0, api.ErrStack
	}
	x := p.numbers[n-1]
	p.numbers = p.numbers[:n-1]
	return x, api.OK
}

func floor16(x int) int { return int(math.Floor(float64(x) / 65536)) }

func truth(is bool) int {
	if is {
		return one
	}
	return 0
}

// do works on a copy, and keeps it, if nothing is refused.
func (p *plain) do(op int) api.Errno {
	n, is := needs[op]
	if !is {
		return api.ErrArg
	}
	if len(p.numbers) < n {
		return api.ErrStack
	}
	q := plain{append([]int(nil), p.numbers...), p.store, p.draws}
	a := make([]int, 4)
	for i := n - 1; i >= 0; i-- {
		a[i], _ = q.pop()
	}
	left, e := q.plainly(op, a[0], a[1], a[2], a[3])
	if e != api.OK {
		return e
	}
	q.numbers = append(q.numbers, left...)
	if len(q.numbers) > 48 {
		return api.ErrStack
	}
	*p = q
	return api.OK
}

func (q *plain) plainly(op, a, b, c, d int) ([]int, api.Errno) {
	var x int
	e := api.OK
	switch op {
	case 9:
		x = a
		if a < 0 {
			x = 0 - a
		}
	case 14:
		x = 0 - a
	case 26:
		x, e = fixed.Root(a)
	case 10:
		x, e = fixed.Add(a, b)
	case 11:
		x, e = fixed.Sub(a, b)
	case 24:
		x, e = fixed.Mul(a, b)
	case 12:
		x, e = fixed.Div(a, b)
	case 3:
		x = truth(a != 0 && b != 0)
	case 4:
		x = truth(!(a == 0 && b == 0))
	case 5:
		x = truth(a == 0)
	case 15:
		x = truth(a == b)
	case 18:
		return nil, api.OK
	case 27:
		return []int{a, a}, api.OK
	case 28:
		return []int{b, a}, api.OK
	case 22:
		x = a
		if c > d {
			x = b
		}
	case 29:
		i := floor16(a)
		if i < 0 {
			i = 0
		}
		if i >= len(q.numbers) {
			return nil, api.ErrStack
		}
		x = q.numbers[len(q.numbers)-1-i]
	case 30:
		return nil, q.roll(floor16(a), floor16(b))
	case 20:
		i := floor16(b)
		if i < 0 || i > 31 {
			return nil, api.ErrStack
		}
		q.store[i] = a
		return nil, api.OK
	case 21:
		i := floor16(a)
		if i < 0 || i > 31 {
			return nil, api.ErrStack
		}
		x = q.store[i]
	case 23:
		x = 65536
		if len(q.draws) > 0 {
			x = int(new(big.Int).Mod(big.NewInt(int64(q.draws[0])), big.NewInt(65536)).Int64()) + 1
			q.draws = q.draws[1:]
		}
	}
	return []int{x}, e
}

// roll turns one place at a time.
func (q *plain) roll(n, j int) api.Errno {
	if n < 0 || n > len(q.numbers) {
		return api.ErrStack
	}
	if n == 0 {
		return api.OK
	}
	l := q.numbers[len(q.numbers)-n:]
	for range int(math.Abs(float64(j))) % n {
		if j > 0 {
			top := l[n-1]
			for i := n - 1; i > 0; i-- {
				l[i] = l[i-1]
			}
			l[0] = top
		} else {
			low := l[0]
			for i := 0; i < n-1; i++ {
				l[i] = l[i+1]
			}
			l[n-1] = low
		}
	}
	return api.OK
}

// made is a stack of these numbers.
func made(t *testing.T, numbers ...int) *stack.Stack {
	t.Helper()
	s := stack.New(nil)
	for _, x := range numbers {
		if e := s.Push(x); e != api.OK {
			t.Fatal("push", x, e)
		}
	}
	return s
}

func wholes(numbers ...int) []int {
	l := make([]int, len(numbers))
	for i, x := range numbers {
		l[i] = x * one
	}
	return l
}

// probe uses up all that a stack has: its numbers, its store, so many draws.
func probe(s *stack.Stack, draws int) []int {
	l := append(s.Take(), -7)
	for i := range 32 {
		s.Push(i * one)
		s.Do(api.OpGet)
		x, _ := s.Pop()
		l = append(l, x)
	}
	for range draws + 1 {
		s.Do(api.OpRandom)
		x, _ := s.Pop()
		l = append(l, x)
	}
	return l
}

func (p *plain) probe(draws int) []int {
	l := append(append([]int(nil), p.numbers...), -7)
	l = append(l, p.store[:]...)
	for range draws + 1 {
		x, _ := p.plainly(23, 0, 0, 0, 0)
		l = append(l, x...)
	}
	return l
}

func TestExample(t *testing.T) {
	s := made(t, wholes(1, 2, 3, 3, 1)...)
	if e := s.Do(api.OpRoll); e != api.OK || !slices.Equal(s.All(), wholes(3, 1, 2)) {
		t.Error(e, s.All())
	}
}

func TestPushAndPop(t *testing.T) {
	s := stack.New(nil)
	if s.Len() != 0 || len(s.All()) != 0 || len(s.Take()) != 0 {
		t.Error("a new stack is not empty")
	}
	if x, e := s.Pop(); x != 0 || e != api.ErrStack {
		t.Error("pop of none", x, e)
	}
	for _, x := range []int{-1 << 31, -1<<31 + 1, -1, 0, 1, 1<<31 - 1, 1 << 31} {
		if e := s.Push(x); e != api.OK || s.Len() != 1 || !slices.Equal(s.All(), []int{x}) {
			t.Error("push", x, e, s.All())
		}
		if got, e := s.Pop(); got != x || e != api.OK || s.Len() != 0 {
			t.Error("pop", x, got, e)
		}
	}
	for _, x := range []int{-1<<31 - 1, 1<<31 + 1, 1 << 32, -1 << 32, math.MinInt, math.MaxInt} {
		if e := s.Push(x); e != api.ErrOver || s.Len() != 0 {
			t.Error("push", x, e)
		}
	}
}

func TestFull(t *testing.T) {
	s := stack.New([]int{7})
	var want []int
	for i := range 48 {
		if e := s.Push(i); e != api.OK || s.Len() != i+1 {
			t.Fatal(i, e)
		}
		want = append(want, i)
	}
	for range 2 {
		if e := s.Push(5); e != api.ErrStack {
			t.Error("push", e)
		}
		if e := s.Push(1 << 40); e != api.ErrOver {
			t.Error("what may not be, first", e)
		}
		for _, op := range []int{api.OpDup, api.OpRandom} {
			if e := s.Do(op); e != api.ErrStack {
				t.Error(op, e)
			}
		}
		if !slices.Equal(s.All(), want) || s.Len() != 48 {
			t.Error("changed", s.All())
		}
	}
	s.Pop()
	if e := s.Do(api.OpRandom); e != api.OK || !slices.Equal(s.All(), append(want[:47:47], 8)) {
		t.Error("the draw was used, or there is no place 48", e, s.All())
	}
	s.Pop()
	if e := s.Do(api.OpDup); e != api.OK || !slices.Equal(s.All(), append(want[:47:47], 46)) {
		t.Error("double", e, s.All())
	}
	if e := s.Do(api.OpExch); e != api.OK || s.Len() != 48 {
		t.Error("of as many as before", e)
	}
}

func TestTake(t *testing.T) {
	s := made(t, 1, 2, 3)
	if l := s.Take(); !slices.Equal(l, []int{1, 2, 3}) || s.Len() != 0 || len(s.All()) != 0 {
		t.Error(l, s.All())
	}
	if e := s.Push(9); e != api.OK || !slices.Equal(s.Take(), []int{9}) || len(s.Take()) != 0 {
		t.Error("used on", e)
	}
}

func TestIsOp(t *testing.T) {
	ops := []int{math.MinInt, math.MaxInt, -1 << 32, 1 << 32, 1<<32 + 3, -1<<32 + 3, 12<<8 + 3}
	for op := -300; op <= 5000; op++ {
		ops = append(ops, op)
	}
	n := 0
	for _, op := range ops {
		_, want := needs[op]
		if got := stack.IsOp(op); got != want {
			t.Error(op, got)
		}
		s := made(t, one, one, one, one)
		e := s.Do(op)
		if want != (e == api.OK) || !want && (e != api.ErrArg || !slices.Equal(s.All(), []int{one, one, one, one})) {
			t.Error("do", op, e, s.All())
		}
		if want {
			n++
		}
		if e := stack.New(nil).Do(op); !want && e != api.ErrArg {
			t.Error("none of an empty stack", op, e)
		}
	}
	if n != 20 {
		t.Error("operators:", n)
	}
}

// TestTable is the chapter's list, written down.
func TestTable(t *testing.T) {
	for _, c := range []struct {
		op   int
		from []int
		want []int
		e    api.Errno
	}{
		{api.OpAbs, []int{-5}, []int{5}, api.OK},
		{api.OpAbs, []int{-1 << 31}, []int{1 << 31}, api.OK},
		{api.OpAbs, []int{5}, []int{5}, api.OK},
		{api.OpNeg, []int{5}, []int{-5}, api.OK},
		{api.OpNeg, []int{-1 << 31}, []int{1 << 31}, api.OK},
		{api.OpSqrt, []int{2 * one}, []int{92681}, api.OK},
		{api.OpSqrt, []int{-1}, nil, api.ErrArg},
		{api.OpAdd, []int{7, 3}, []int{10}, api.OK},
		{api.OpAdd, []int{1 << 31, 1}, nil, api.ErrOver},
		{api.OpSub, []int{7, 3}, []int{4}, api.OK},
		{api.OpSub, []int{-1 << 31, 1}, nil, api.ErrOver},
		{api.OpMul, []int{3 * one, one / 2}, []int{3 * one / 2}, api.OK},
		{api.OpMul, []int{1 << 31, 2 * one}, nil, api.ErrOver},
		{api.OpDiv, []int{one, 2 * one}, []int{one / 2}, api.OK},
		{api.OpDiv, []int{one, 0}, nil, api.ErrArg},
		{api.OpDiv, []int{one, 1}, nil, api.ErrOver},
		{api.OpAnd, []int{-1, 2}, []int{one}, api.OK},
		{api.OpAnd, []int{0, 2}, []int{0}, api.OK},
		{api.OpAnd, []int{2, 0}, []int{0}, api.OK},
		{api.OpOr, []int{0, 0}, []int{0}, api.OK},
		{api.OpOr, []int{0, -1}, []int{one}, api.OK},
		{api.OpOr, []int{1, 0}, []int{one}, api.OK},
		{api.OpNot, []int{0}, []int{one}, api.OK},
		{api.OpNot, []int{1}, []int{0}, api.OK},
		{api.OpEq, []int{5, 5}, []int{one}, api.OK},
		{api.OpEq, []int{5, 6}, []int{0}, api.OK},
		{api.OpDrop, []int{5, 6}, []int{5}, api.OK},
		{api.OpDup, []int{5, 6}, []int{5, 6, 6}, api.OK},
		{api.OpExch, []int{4, 5, 6}, []int{4, 6, 5}, api.OK},
		{api.OpIfElse, []int{1, 2, 3, 4}, []int{1}, api.OK},
		{api.OpIfElse, []int{1, 2, 3, 3}, []int{1}, api.OK},
		{api.OpIfElse, []int{1, 2, 4, 3}, []int{2}, api.OK},
		{api.OpIndex, []int{7, 8, 9, 0}, []int{7, 8, 9, 9}, api.OK},
		{api.OpIndex, []int{7, 8, 9, 2*one + 65535}, []int{7, 8, 9, 7}, api.OK},
		{api.OpIndex, []int{7, 8, 9, 3 * one}, nil, api.ErrStack},
		{api.OpIndex, []int{7, 8, 9, -1}, []int{7, 8, 9, 9}, api.OK},
		{api.OpIndex, []int{7, 8, 9, -1 << 31}, []int{7, 8, 9, 9}, api.OK},
		{api.OpIndex, []int{0}, nil, api.ErrStack},
		{api.OpIndex, []int{-1}, nil, api.ErrStack},
		{api.OpRoll, []int{7, 8, 9, 3 * one, -one}, []int{8, 9, 7}, api.OK},
		{api.OpRoll, []int{7, 8, 9, 2*one + 1, -1}, []int{7, 9, 8}, api.OK},
		{api.OpRoll, []int{7, 8, 9, 65535, 5 * one}, []int{7, 8, 9}, api.OK},
		{api.OpRoll, []int{7, 8, 9, -1, 0}, nil, api.ErrStack},
		{api.OpRoll, []int{7, 8, 9, 4 * one, 0}, nil, api.ErrStack},
		{api.OpRoll, []int{0, 0}, []int{}, api.OK},
		{api.OpRoll, []int{one, 0}, nil, api.ErrStack},
		{api.OpPut, []int{5, 31*one + 65535}, []int{}, api.OK},
		{api.OpPut, []int{5, 32 * one}, nil, api.ErrStack},
		{api.OpPut, []int{5, -1}, nil, api.ErrStack},
		{api.OpGet, []int{31 * one}, []int{0}, api.OK},
		{api.OpGet, []int{32 * one}, nil, api.ErrStack},
		{api.OpGet, []int{-1}, nil, api.ErrStack},
		{api.OpRandom, []int{5}, []int{5, one}, api.OK},
	} {
		s := made(t, c.from...)
		want := c.want
		if c.e != api.OK {
			want = c.from
		}
		if e := s.Do(c.op); e != c.e || !slices.Equal(s.All(), want) {
			t.Error(c.op, c.from, e, s.All())
		}
	}
}

// interesting is numbers at bounds, roundings and signs.
func interesting() []int {
	l := []int{0}
	for _, x := range []int{1, 2, 3, 255, 32767, 32768, 32769, 65535, 65536, 65537, 98304, 31 * one, 32 * one, 1 << 20, 46341 * one / 181, 1<<31 - 1, 1 << 31} {
		l = append(l, x, -x)
	}
	return l
}

// TestNumbers holds all operators against plain, of four of these numbers.
func TestNumbers(t *testing.T) {
	l := interesting()
	kinds := map[api.Errno]int{}
	for _, op := range allOps() {
		for _, a := range l {
			for _, b := range l {
				p := plain{numbers: []int{b, a, 3, a, b}}
				s := made(t, p.numbers...)
				e, want := s.Do(op), p.do(op)
				if e != want || !slices.Equal(s.All(), p.numbers) {
					t.Fatal(op, a, b, e, want, s.All(), p.numbers)
				}
				kinds[e]++
			}
		}
	}
	for _, e := range []api.Errno{api.OK, api.ErrArg, api.ErrOver, api.ErrStack} {
		if kinds[e] < 20 {
			t.Error("too few of", e, kinds)
		}
	}
}

// TestTooFew: each operator of as many numbers as there are, 0 to 6.
func TestTooFew(t *testing.T) {
	for _, op := range allOps() {
		for n := range 7 {
			p := plain{draws: []int{-5, 70000}}
			s := stack.New([]int{-5, 70000})
			for i := range n {
				x := (n - i - 1) * one / 2
				p.push(x)
				s.Push(x)
			}
			e, want := s.Do(op), p.do(op)
			if n < needs[op] && e != api.ErrStack || e != want || !slices.Equal(s.All(), p.numbers) {
				t.Error(op, n, e, want, s.All())
			}
			if got, want := probe(s, 2), p.probe(2); !slices.Equal(got, want) {
				t.Error(op, n, got, want)
			}
		}
	}
}

// TestIndex: all indexes of stacks of all lengths, also parts of them.
func TestIndex(t *testing.T) {
	for n := range 48 {
		for i := -2; i <= n+2; i++ {
			for _, part := range []int{0, 1, 65535} {
				p := plain{}
				for k := range n {
					p.push(k - 20)
				}
				p.push(i*one + part)
				s := made(t, p.numbers...)
				e, want := s.Do(api.OpIndex), p.do(api.OpIndex)
				if e != want || !slices.Equal(s.All(), p.numbers) || (e == api.OK) != (max(i, 0) < n) {
					t.Fatal(n, i, part, e, s.All())
				}
			}
		}
	}
}

// TestRoll: all counts and turns of stacks of several lengths, also parts of them.
func TestRoll(t *testing.T) {
	for _, have := range []int{0, 1, 2, 3, 7, 46} {
		for n := -1; n <= have+1; n++ {
			for j := -2*have - 3; j <= 2*have+3; j++ {
				for _, part := range []int{0, 40000} {
					p := plain{}
					for k := range have {
						p.push(100 + k)
					}
					p.push(n*one + part)
					p.push(j*one + part)
					s := made(t, p.numbers...)
					e, want := s.Do(api.OpRoll), p.do(api.OpRoll)
					if e != want || !slices.Equal(s.All(), p.numbers) || (e == api.OK) != (0 <= n && n <= have) {
						t.Fatal(have, n, j, e, s.All(), p.numbers)
					}
				}
			}
		}
	}
	for _, j := range []int{-1 << 31, 1 << 31, 1<<31 - 1} {
		p := plain{numbers: []int{1, 2, 3, 4, 5, 5 * one, j}}
		s := made(t, p.numbers...)
		if e := s.Do(api.OpRoll); e != p.do(api.OpRoll) || !slices.Equal(s.All(), p.numbers) {
			t.Error(j, s.All())
		}
	}
}

// TestRolledRound is P17.3.
func TestRolledRound(t *testing.T) {
	for n := range 47 {
		s := stack.New(nil)
		for k := range n {
			s.Push(k * k)
		}
		want := s.All()
		roll := func(j int) {
			s.Push(n * one)
			s.Push(j * one)
			if e := s.Do(api.OpRoll); e != api.OK {
				t.Fatal(n, j, e)
			}
		}
		for i := range n {
			if i > 0 && slices.Equal(s.All(), want) {
				t.Error("round already", n, i)
			}
			roll(1)
		}
		if !slices.Equal(s.All(), want) {
			t.Error("round", n, s.All())
		}
		for j := -50; j <= 50; j++ {
			roll(j)
			roll(-j)
			if !slices.Equal(s.All(), want) {
				t.Error("there and back", n, j, s.All())
			}
		}
	}
}

func TestStore(t *testing.T) {
	s := stack.New(nil)
	do := func(op int, numbers ...int) api.Errno {
		for _, x := range numbers {
			s.Push(x)
		}
		return s.Do(op)
	}
	get := func(i int) int {
		if e := do(api.OpGet, i*one+12345); e != api.OK || s.Len() != 1 {
			t.Error("get", i, e, s.All())
		}
		x, _ := s.Pop()
		return x
	}
	for i := range 32 {
		if x := get(i); x != 0 {
			t.Error("at first", i, x)
		}
	}
	for i := range 32 {
		if e := do(api.OpPut, -1<<31+i, i*one+i); e != api.OK || s.Len() != 0 {
			t.Error("put", i, e)
		}
	}
	for _, i := range []int{-1 << 31, -one, -1, 32 * one, 33 * one, 1 << 31} {
		if e := do(api.OpPut, 5, i); e != api.ErrStack || !slices.Equal(s.Take(), []int{5, i}) {
			t.Error("put", i, e)
		}
		if e := do(api.OpGet, i); e != api.ErrStack || !slices.Equal(s.Take(), []int{i}) {
			t.Error("get", i, e)
		}
	}
	for i := range 32 {
		if x := get(i); x != -1<<31+i {
			t.Error("then", i, x)
		}
	}
	if other := stack.New(nil); other.Push(0) != api.OK || other.Do(api.OpGet) != api.OK || !slices.Equal(other.All(), []int{0}) {
		t.Error("another stack's store", other.All())
	}
}

func TestRandom(t *testing.T) {
	draws := []int{0, 1, 65534, 65535, 65536, 65537, -1, -65535, -65536, -65537, math.MinInt, math.MaxInt, 1 << 40, -1<<40 - 3}
	want := []int{1, 2, 65535, 65536, 1, 2, 65536, 2, 1, 65536, 1, 65536, 1, 65534, 65536, 65536, 65536}
	s := stack.New(draws)
	for i, x := range want {
		if e := s.Do(api.OpRandom); e != api.OK {
			t.Fatal(i, e)
		}
		if got, _ := s.Pop(); got != x {
			t.Error(i, got, x)
		}
	}
}

func TestNil(t *testing.T) {
	var s *stack.Stack
	if e := s.Push(1); e != api.ErrClosed {
		t.Error(e)
	}
	if e := s.Push(1 << 40); e != api.ErrClosed {
		t.Error(e)
	}
	if x, e := s.Pop(); x != 0 || e != api.ErrClosed {
		t.Error(x, e)
	}
	if s.Len() != 0 || len(s.All()) != 0 || len(s.Take()) != 0 {
		t.Error("something of nil")
	}
	for _, op := range []int{api.OpDrop, api.OpRandom, 0, -1} {
		if e := s.Do(op); e != api.ErrClosed {
			t.Error(op, e)
		}
	}
}

// TestDrawn holds drawn calls against plain, whatever was refused ahead.
func TestDrawn(t *testing.T) {
	r := rand.New(rand.NewSource(17))
	ops, edges := allOps(), interesting()
	kinds := map[api.Errno]int{}
	for range 3000 {
		draws := make([]int, r.Intn(4))
		for i := range draws {
			draws[i] = r.Intn(1<<20) - 1<<19
		}
		s, p := stack.New(draws), &plain{draws: draws}
		grow := r.Intn(4)
		for range 100 {
			var e, want api.Errno
			switch k := r.Intn(6); {
			case k < 2 || k < grow:
				x := (r.Intn(40) - 4) * one
				if r.Intn(3) == 0 {
					x = edges[r.Intn(len(edges))] + r.Intn(3) - 1
				}
				e, want = s.Push(x), p.push(x)
			case k == 3 && r.Intn(4) == 0:
				var x, y int
				x, e = s.Pop()
				y, want = p.pop()
				if x != y {
					t.Fatal("pop", x, y)
				}
			case k == 3 && r.Intn(20) == 0:
				if l := s.Take(); !slices.Equal(l, p.numbers) {
					t.Fatal("take", l, p.numbers)
				}
				p.numbers = nil
			default:
				op := ops[r.Intn(len(ops))]
				e, want = s.Do(op), p.do(op)
			}
			if e != want || !slices.Equal(s.All(), p.numbers) || s.Len() != len(p.numbers) {
				t.Fatal(e, want, s.All(), p.numbers)
			}
			kinds[e]++
		}
		if got, want := probe(s, len(draws)), p.probe(len(draws)); !slices.Equal(got, want) {
			t.Fatal(got, want)
		}
	}
	for _, e := range []api.Errno{api.OK, api.ErrArg, api.ErrOver, api.ErrStack} {
		if kinds[e] < 300 {
			t.Error("too few of", e, kinds)
		}
	}
}

func fill(l []int) {
	l = l[:cap(l)]
	for i := range l {
		l[i] = -99
	}
}

func TestMemory(t *testing.T) {
	room := []int{5, 6, 7, 8, 9}
	s := stack.New(room[1:3])
	if !slices.Equal(room, []int{5, 6, 7, 8, 9}) {
		t.Error("changed", room)
	}
	fill(room)
	for i := range 20 {
		s.Push(i)
		fill(s.All())
		if l := s.All(); len(l) != i+1 || l[0] != 0 || l[i] != i {
			t.Fatal("all is shared", l)
		}
	}
	for range 10 {
		s.Pop()
	}
	fill(s.All())
	s.Do(api.OpRandom)
	s.Do(api.OpRandom)
	s.Do(api.OpRandom)
	if l := s.All(); !slices.Equal(l[10:], []int{7, 8, one}) {
		t.Error("draws are shared", l)
	}
	taken := s.Take()
	for i := range 30 {
		s.Push(100 + i)
	}
	if taken[0] != 0 || taken[9] != 9 {
		t.Error("taken is shared", taken)
	}
	fill(taken)
	if l := s.All(); l[0] != 100 || l[29] != 129 {
		t.Error("taken is shared", l)
	}
}

func TestAtOnce(t *testing.T) {
	var all sync.WaitGroup
	for k := range 8 {
		all.Go(func() {
			s, p := stack.New([]int{k}), &plain{draws: []int{k}}
			for i := range 200 {
				s.Push(i % 7 * one)
				p.push(i % 7 * one)
				ops := allOps()
				op := ops[(i*k+i)%len(ops)]
				if e := s.Do(op); e != p.do(op) || !slices.Equal(s.All(), p.numbers) {
					t.Error(k, i, op)
				}
			}
		})
	}
	all.Wait()
}
