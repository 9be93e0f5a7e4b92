package type2_test

import (
	"math"
	"math/rand"
	"reflect"
	"slices"
	"sync"
	"testing"

	"serif/api"
	"serif/outline"
	"serif/type2"
)

const one = api.One16

// num is a number in 16.16 as bytes.
func num(x int) []byte {
	whole := x / one
	switch {
	case x%one != 0 || whole > 32767:
		return []byte{255, byte(x >> 24), byte(x >> 16), byte(x >> 8), byte(x)}
	case -107 <= whole && whole <= 107:
		return []byte{byte(whole + 139)}
	case 108 <= whole && whole <= 1131:
		return []byte{byte(247 + (whole-108)/256), byte((whole - 108) % 256)}
	case -1131 <= whole && whole <= -108:
		return []byte{byte(251 + (-whole-108)/256), byte((-whole - 108) % 256)}
	}
	return []byte{28, byte(whole >> 8), byte(whole)}
}

// code is a charstring's bytes. An operator of two bytes is told as 1200 and the second one.
type code []byte

func (c code) nums(numbers ...int) code {
	for _, x := range numbers {
		c = append(c, num(x*one)...)
	}
	return c
}

func (c code) raw(numbers ...int) code {
	for _, x := range numbers {
		c = append(c, num(x)...)
	}
	return c
}

func (c code) op(op int) code {
	if op >= 1200 {
		return append(c, 12, byte(op-1200))
	}
	return append(c, byte(op))
}

func (c code) times(n int, more code) code {
	for range n {
		c = append(c, more...)
	}
	return c
}

func (c code) end() code { return append(c, 14) }

func run(c code) (api.Drawn, api.Errno) { return type2.Run(api.Program{Code: c}) }

// check holds Run against plain.
func check(t *testing.T, p api.Program) (api.Drawn, api.Errno) {
	t.Helper()
	return checkReached(t, p, map[string]int{})
}

func checkReached(t *testing.T, p api.Program, reached map[string]int) (api.Drawn, api.Errno) {
	t.Helper()
	d, e := type2.Run(p)
	want, wantE := asIsPlain(p, reached)
	if e != wantE || d.Width != want.Width || d.Steps != want.Steps || !outline.Same(d.Outline, want.Outline) {
		t.Fatalf("%v\n got %v %v\nwant %v %v", p, d, e, want, wantE)
	}
	if e != api.OK && !reflect.DeepEqual(d, api.Drawn{}) {
		t.Fatal("something beside an error", d, e)
	}
	if e := outline.Check(d.Outline); e != api.OK {
		t.Fatal("an outline that may not be", e, d)
	}
	return d, e
}

func TestExample(t *testing.T) {
	d, e := run(code{139, 139, 21, 239, 6, 14})
	want := api.Drawn{Outline: [][]api.Point{{{Kind: on}, {X: 100 * one, Kind: on}}}, Steps: 6}
	if e != api.OK || !reflect.DeepEqual(d, want) {
		t.Error(d, e)
	}
}

// TestDrawnTable is each operator's shape, written down: dots as they follow one another.
func TestDrawnTable(t *testing.T) {
	type dots [][3]int
	for _, c := range []struct {
		op   int
		l    []int
		want dots
	}{
		{5, []int{1, 2, 3, 4}, dots{{1, 2, on}, {4, 6, on}}},
		{6, []int{1, 2, 3}, dots{{1, 0, on}, {1, 2, on}, {4, 2, on}}},
		{7, []int{1, 2, 3}, dots{{0, 1, on}, {2, 1, on}, {2, 4, on}}},
		{8, []int{1, 2, 3, 4, 5, 6}, dots{{1, 2, cubic}, {4, 6, cubic}, {9, 12, on}}},
		{24, []int{1, 2, 3, 4, 5, 6, 7, 8}, dots{{1, 2, cubic}, {4, 6, cubic}, {9, 12, on}, {16, 20, on}}},
		{25, []int{7, 8, 1, 2, 3, 4, 5, 6}, dots{{7, 8, on}, {8, 10, cubic}, {11, 14, cubic}, {16, 20, on}}},
		{27, []int{1, 2, 3, 4}, dots{{1, 0, cubic}, {3, 3, cubic}, {7, 3, on}}},
		{27, []int{9, 1, 2, 3, 4, 1, 2, 3, 4}, dots{{1, 9, cubic}, {3, 12, cubic}, {7, 12, on}, {8, 12, cubic}, {10, 15, cubic}, {14, 15, on}}},
		{26, []int{1, 2, 3, 4}, dots{{0, 1, cubic}, {2, 4, cubic}, {2, 8, on}}},
		{26, []int{9, 1, 2, 3, 4, 1, 2, 3, 4}, dots{{9, 1, cubic}, {11, 4, cubic}, {11, 8, on}, {11, 9, cubic}, {13, 12, cubic}, {13, 16, on}}},
		{31, []int{1, 2, 3, 4}, dots{{1, 0, cubic}, {3, 3, cubic}, {3, 7, on}}},
		{31, []int{1, 2, 3, 4, 5}, dots{{1, 0, cubic}, {3, 3, cubic}, {8, 7, on}}},
		{31, []int{1, 2, 3, 4, 1, 2, 3, 4, 5}, dots{{1, 0, cubic}, {3, 3, cubic}, {3, 7, on}, {3, 8, cubic}, {5, 11, cubic}, {9, 16, on}}},
		{30, []int{1, 2, 3, 4}, dots{{0, 1, cubic}, {2, 4, cubic}, {6, 4, on}}},
		{30, []int{1, 2, 3, 4, 5}, dots{{0, 1, cubic}, {2, 4, cubic}, {6, 9, on}}},
		{30, []int{1, 2, 3, 4, 1, 2, 3, 4, 5}, dots{{0, 1, cubic}, {2, 4, cubic}, {6, 4, on}, {7, 4, cubic}, {9, 7, cubic}, {14, 11, on}}},
		{1235, []int{1, 2, 3, 4, 5, 6, 1, 1, 2, 2, 3, 3, 50}, dots{{1, 2, cubic}, {4, 6, cubic}, {9, 12, on}, {10, 13, cubic}, {12, 15, cubic}, {15, 18, on}}},
		{1234, []int{1, 2, 3, 4, 5, 6, 7}, dots{{1, 0, cubic}, {3, 3, cubic}, {7, 3, on}, {12, 3, cubic}, {18, 0, cubic}, {25, 0, on}}},
		{1236, []int{1, 2, 3, 4, 5, 6, 7, 8, 9}, dots{{1, 2, cubic}, {4, 6, cubic}, {9, 6, on}, {15, 6, cubic}, {22, 14, cubic}, {31, 0, on}}},
		{1237, []int{5, 1, 5, 1, 5, 1, 5, 1, 5, 1, 7}, dots{{5, 1, cubic}, {10, 2, cubic}, {15, 3, on}, {20, 4, cubic}, {25, 5, cubic}, {32, 0, on}}},
		{1237, []int{1, 5, 1, 5, 1, 5, 1, 5, 1, 5, 7}, dots{{1, 5, cubic}, {2, 10, cubic}, {3, 15, on}, {4, 20, cubic}, {5, 25, cubic}, {0, 32, on}}},
		{1237, []int{1, 1, 1, 1, 1, 1, 1, 1, 1, 1, 7}, dots{{1, 1, cubic}, {2, 2, cubic}, {3, 3, on}, {4, 4, cubic}, {5, 5, cubic}, {0, 12, on}}},
		{1237, []int{-5, 1, -5, 1, -5, 1, -5, 1, -5, 1, 7}, dots{{-5, 1, cubic}, {-10, 2, cubic}, {-15, 3, on}, {-20, 4, cubic}, {-25, 5, cubic}, {-18, 0, on}}},
	} {
		want := []api.Point{{X: 10 * one, Y: 20 * one, Kind: on}}
		for _, d := range c.want {
			want = append(want, api.Point{X: (10 + d[0]) * one, Y: (20 + d[1]) * one, Kind: d[2]})
		}
		d, e := check(t, api.Program{Code: code{}.nums(10, 20).op(21).nums(c.l...).op(c.op).end()})
		if e != api.OK || !reflect.DeepEqual(d.Outline, [][]api.Point{want}) || d.Steps != 3+len(c.l)+2 {
			t.Error(c.op, c.l, d, e)
		}
	}
}

// TestMoves: the pen stays where it was, contours of one point are left out.
func TestMoves(t *testing.T) {
	c := code{}.nums(1).op(22).nums(5).op(4).nums(7, 7).op(5).nums(100, 100).op(21).nums(1, 1).op(21).nums(2).op(6).nums(3).op(22).end()
	d, e := check(t, api.Program{Code: c, Default: 33, Nominal: 44})
	want := [][]api.Point{
		{{X: one, Y: 5 * one, Kind: on}, {X: 8 * one, Y: 12 * one, Kind: on}},
		{{X: 109 * one, Y: 113 * one, Kind: on}, {X: 111 * one, Y: 113 * one, Kind: on}},
	}
	if e != api.OK || !reflect.DeepEqual(d, api.Drawn{Outline: want, Width: 33, Steps: 18}) {
		t.Error(d, e)
	}
	if d, e := run(code{}.nums(1, 2).op(21).end()); e != api.OK || len(d.Outline) != 0 || d.Steps != 4 {
		t.Error("a move alone", d, e)
	}
	if d, e := run(code{14}); e != api.OK || !reflect.DeepEqual(d, api.Drawn{Steps: 1}) {
		t.Error("the end alone", d, e)
	}
}

// fits is of each operator which takes all numbers how many these are, of up to 48.
var fits = map[int]func(n int) bool{
	1: even, 3: even, 18: even, 23: even, 19: even, 20: even,
	21: is(2), 22: is(1), 4: is(1), 14: is(0, 4),
	5:    is(2, 4, 6, 8, 10, 12, 14, 16, 18, 20, 22, 24, 26, 28, 30, 32, 34, 36, 38, 40, 42, 44, 46, 48),
	6:    func(n int) bool { return n > 0 },
	7:    func(n int) bool { return n > 0 },
	8:    is(6, 12, 18, 24, 30, 36, 42, 48),
	24:   is(8, 14, 20, 26, 32, 38, 44),
	25:   is(8, 10, 12, 14, 16, 18, 20, 22, 24, 26, 28, 30, 32, 34, 36, 38, 40, 42, 44, 46, 48),
	26:   bends,
	27:   bends,
	30:   bends,
	31:   bends,
	1234: is(7), 1235: is(13), 1236: is(9), 1237: is(11),
}

func even(n int) bool  { return n%2 == 0 }
func bends(n int) bool { return n >= 4 && n%4 < 2 }
func is(counts ...int) func(int) bool {
	return func(n int) bool { return slices.Contains(counts, n) }
}

var wide = []int{1, 3, 18, 23, 19, 20, 21, 22, 4, 14}

var draws = []int{5, 6, 7, 8, 24, 25, 26, 27, 30, 31, 1234, 1235, 1236, 1237}

// TestCounts: each operator of each count, as the first such one, behind another one, and behind a move.
func TestCounts(t *testing.T) {
	for op, fit := range fits {
		for n := range 49 {
			l := make([]int, n)
			for i := range l {
				l[i] = i + 1
			}
			for _, ahead := range []code{nil, code{1}, code{}.nums(0, 0).op(21), code{}.nums(9, 8, 7).op(1)} {
				p := api.Program{Code: append(ahead[:len(ahead):len(ahead)].nums(l...).op(op), 0, 0, 0, 0, 14), Default: 5, Nominal: 10}
				if op != 19 && op != 20 {
					p.Code = append(p.Code[:len(p.Code)-5], 14)
				}
				_, e := check(t, p)
				want := fit(n) || len(ahead) == 0 && slices.Contains(wide, op) && fit(n-1)
				if want && slices.Contains(draws, op) {
					want = len(ahead) == 3
				}
				seac := op == 14 && (n == 4 || n == 5 && len(ahead) == 0)
				if seac {
					if e != api.ErrSeac {
						t.Error("two glyphs", n, ahead, e)
					}
					continue
				}
				zeros := op == 19 || op == 20 // whose zeros are skipped, or are no operators
				if !zeros && want != (e == api.OK) || !want && e != api.ErrChar {
					t.Error(op, n, ahead, e)
				}
			}
		}
	}
}

// TestOperators: each byte, and each second byte, with numbers that many operators take.
func TestOperators(t *testing.T) {
	stackOps := []int{3, 4, 5, 9, 10, 11, 12, 14, 15, 18, 20, 21, 22, 23, 24, 26, 27, 28, 29, 30}
	for b := range 256 {
		_, isFit := fits[b]
		isNumber := b == 28 || b >= 32
		ahead := code{}.nums(0, 0).op(21)
		for n := range 14 {
			p := api.Program{Code: append(ahead[:len(ahead):len(ahead)].nums(make([]int, n)...), byte(b), 14, 14, 14, 14, 14, 14)}
			_, e := check(t, p)
			known := isFit || isNumber || b == 10 || b == 29 || b == 12
			if !known && e != api.ErrChar {
				t.Error(b, n, e)
			}
			two := append(ahead[:len(ahead):len(ahead)].nums(make([]int, n)...), 12, byte(b))
			for range n + 2 {
				two = append(two, 12, 18) // takes what is left away
			}
			d, e := check(t, api.Program{Code: append(ahead[:len(ahead):len(ahead)].nums(make([]int, n)...), 12, byte(b))})
			if len(d.Outline) > 0 || e == api.OK {
				t.Error("no end", b, n, e)
			}
			_, e = check(t, api.Program{Code: two})
			if known := slices.Contains(stackOps, b) || 34 <= b && b <= 37; !known && e != api.ErrChar {
				t.Error("two bytes", b, n, e)
			}
		}
	}
	for _, op := range stackOps {
		if _, e := run(code{}.op(1200 + op).end()); e == api.ErrChar {
			t.Error("no operator", op, e)
		}
	}
	if _, e := run(code{12}); e != api.ErrChar {
		t.Error(e)
	}
}

// TestStackOperators: what the stack refuses is told, what it does is drawn.
func TestStackOperators(t *testing.T) {
	move := code{}.nums(0, 0).op(21)
	for _, c := range []struct {
		code code
		e    api.Errno
	}{
		{code{}.nums(1).op(1210), api.ErrStack},
		{code{}.nums(1, 0).op(1212), api.ErrArg},
		{code{}.nums(-1).op(1226), api.ErrArg},
		{code{}.nums(32767, 32767).op(1224), api.ErrOver},
		{code{}.op(1218), api.ErrStack},
		{code{}.nums(5, 32).op(1220), api.ErrStack},
		{code{}.nums(make([]int, 48)...).nums(0), api.ErrStack},
		{code{}.nums(make([]int, 48)...).op(1223), api.ErrStack},
		{append(code{}.nums(make([]int, 48)...), 28, 1), api.ErrChar},
	} {
		if _, e := check(t, api.Program{Code: append(move[:len(move):len(move)], c.code...)}); e != c.e {
			t.Error(c.code, e)
		}
	}
	c := move.nums(3, 4).op(1224).nums(5).op(1214).op(5).nums(7, 8).op(1228).op(5).end()
	d, e := check(t, api.Program{Code: c})
	want := [][]api.Point{{{Kind: on}, {X: 12 * one, Y: -5 * one, Kind: on}, {X: 20 * one, Y: 2 * one, Kind: on}}}
	if e != api.OK || !reflect.DeepEqual(d.Outline, want) || d.Steps != 14 {
		t.Error(d, e)
	}
	c = code{}.nums(9, 3).op(1220).nums(0).op(22).nums(3).op(1221).op(6).op(1223).op(6).op(1223).op(6).end()
	d, e = check(t, api.Program{Code: c, Draws: []int{-1, 4}})
	want = [][]api.Point{{{Kind: on}, {X: 9 * one, Kind: on}, {X: 10 * one, Kind: on}, {X: 10*one + 5, Kind: on}}}
	if e != api.OK || !reflect.DeepEqual(d.Outline, want) {
		t.Error("store and draws", d, e)
	}
}

// TestNumbers: all numbers of one, two and three bytes, and some of five, and each of them cut.
func TestNumbers(t *testing.T) {
	see := func(want int, b ...byte) {
		t.Helper()
		d, e := run(append(code(b), 22, 139, 6, 14))
		if e != api.OK || len(d.Outline) != 1 || d.Outline[0][0].X != want || d.Steps != 5 {
			t.Fatal(b, want, d, e)
		}
		for i := 1; i < len(b); i++ {
			if _, e := run(b[:i]); e != api.ErrChar {
				t.Fatal("cut", b[:i], e)
			}
		}
	}
	for v := 32; v <= 246; v++ {
		see((v-139)*one, byte(v))
	}
	for v := 247; v <= 250; v++ {
		for w := range 256 {
			see(((v-247)*256+w+108)*one, byte(v), byte(w))
			see((-(v-247)*256-w-108)*one, byte(v+4), byte(w))
		}
	}
	for v := range 256 {
		for _, w := range []int{0, 1, 127, 128, 255} {
			see(int(int16(v<<8|w))*one, 28, byte(v), byte(w))
			see(int(int32(uint32(v<<24|w))), 255, byte(v), 0, 0, byte(w))
			see(int(int32(uint32(w<<24|v<<16|w<<8|v))), 255, byte(w), byte(v), byte(w), byte(v))
		}
	}
	see(1<<31-1, 255, 127, 255, 255, 255)
	see(-1<<31, 255, 128, 0, 0, 0)
	see(-1<<31, 28, 128, 0)
	see(-1, 255, 255, 255, 255, 255)
}

func TestWidth(t *testing.T) {
	p := func(c code) api.Program { return api.Program{Code: c, Default: 7 * one, Nominal: 100 * one} }
	for _, c := range []struct {
		code code
		want int
	}{
		{code{}.nums(5).op(14), 105},
		{code{}.op(14), 7},
		{code{}.nums(-5, 1).op(22).end(), 95},
		{code{}.nums(1).op(22).end(), 7},
		{code{}.nums(5, 1).op(4).end(), 105},
		{code{}.nums(5, 1, 2).op(21).end(), 105},
		{code{}.nums(1, 2).op(21).end(), 7},
		{code{}.nums(5).op(1).end(), 105},
		{code{}.nums(5, 1, 2).op(3).end(), 105},
		{code{}.nums(5, 1, 2).op(18).nums(1, 2).op(21).end(), 105},
		{code{}.nums(5, 1, 2).op(23).end(), 105},
		{append(code{}.nums(5, 1, 2).op(19), 0, 14), 105},
		{append(code{}.nums(5).op(20), 14), 105},
		{append(code{}.nums(1, 2).op(20), 0, 14), 7},
		{code{}.nums(2, 3).op(1210).op(14), 105},
	} {
		d, e := check(t, p(c.code))
		if e != api.OK || d.Width != c.want*one {
			t.Error(c.code, d, e)
		}
	}
	for _, op := range wide {
		for _, ahead := range []code{code{}.op(1), code{}.nums(5, 6, 7).op(1), code{}.nums(1, 2).op(21), code{}.op(19)} {
			n := map[int]int{21: 3, 22: 2, 4: 2}[op]
			if n == 0 {
				n = 1
			}
			if _, e := check(t, p(ahead.nums(make([]int, n)...).op(op).op(14))); e != api.ErrChar {
				t.Error("a second width", op, ahead, e)
			}
		}
	}
}

func TestWidthOver(t *testing.T) {
	far := []int{1<<31 + 1, -1<<31 - 1, 1 << 32, -1 << 32, math.MaxInt, math.MinInt}
	for _, x := range far {
		for _, c := range []code{{14}, {}, {11}, code{}.nums(1, 2, 3, 4).op(14)} {
			if _, e := type2.Run(api.Program{Code: c, Default: x}); e != api.ErrOver {
				t.Error("default", x, e)
			}
			if _, e := type2.Run(api.Program{Code: c, Nominal: x}); e != api.ErrOver {
				t.Error("nominal", x, e)
			}
		}
	}
	for _, x := range []int{1 << 31, -1 << 31} {
		if d, e := type2.Run(api.Program{Code: code{14}, Default: x, Nominal: -x}); e != api.OK || d.Width != x {
			t.Error(x, d, e)
		}
	}
	for _, c := range []struct {
		nominal int
		code    code
		e       api.Errno
	}{
		{1 << 31, code{}.raw(1).op(14), api.ErrOver},
		{1 << 31, code{}.raw(0).op(14), api.OK},
		{1<<31 - 1, code{}.raw(1).op(14), api.OK},
		{-1 << 31, code{}.raw(-1).op(14), api.ErrOver},
		{-1<<31 + 1, code{}.raw(-1).op(14), api.OK},
		{1 << 31, code{}.raw(1, 0, 0, 0, 0).op(14), api.ErrOver},
		{1 << 31, code{}.raw(0, 0, 0, 0, 0).op(14), api.ErrSeac},
		{1 << 31, code{}.raw(1, 0, 0).op(19), api.ErrOver},
		{1 << 31, code{}.raw(1, 0, 0, 0).op(21), api.ErrChar},
		{1 << 31, code{}.raw(1, 0).op(6), api.ErrChar},
		{1 << 31, code{}.raw(1, 0).op(4).op(2), api.ErrOver},
	} {
		if _, e := check(t, api.Program{Code: c.code, Nominal: c.nominal}); e != c.e {
			t.Error(c.nominal, c.code, e)
		}
	}
}

// TestNoWidth: an operator that draws has no width ahead of its numbers, not even one that is over.
func TestNoWidth(t *testing.T) {
	for _, op := range draws {
		for n := range 49 {
			l := make([]int, n)
			for i := range l {
				l[i] = 1
			}
			if _, e := check(t, api.Program{Code: code{}.nums(l...).op(op).end(), Nominal: 1 << 31}); e != api.ErrChar {
				t.Error(op, n, e)
			}
		}
	}
}

// TestStems: as many as may be, and the bytes that a mask skips, which would else be operators.
func TestStems(t *testing.T) {
	for n := 0; n <= 100; n++ {
		var ahead code
		for left := n; left > 0; left -= 20 {
			ahead = ahead.nums(make([]int, 2*min(left, 20))...).op([]int{1, 3, 18, 23}[left%4])
		}
		if len(ahead) == 0 {
			ahead = ahead.op(1)
		}
		for _, op := range []int{19, 20} {
			for more := range 3 {
				skip := (n + more + 7) / 8
				c := ahead[:len(ahead):len(ahead)].nums(make([]int, 2*more)...).op(op)
				for i := range skip {
					c = append(c, []byte{2, 14, 11, 28, 12}[i%5])
				}
				d, e := check(t, api.Program{Code: c.end()})
				want := api.OK
				if n+more > 96 {
					want = api.ErrChar
				}
				if e != want {
					t.Error(n, more, op, e)
				}
				if e == api.OK && (d.Steps == 0 || len(d.Outline) > 0) {
					t.Error(n, more, d)
				}
				for cut := range skip + 1 {
					if _, e := check(t, api.Program{Code: c[:len(c)-cut]}); e != api.ErrChar {
						t.Error("cut", n, more, op, cut, e)
					}
				}
			}
		}
		if _, e := run(ahead[:len(ahead):len(ahead)].end()); (e == api.OK) != (n <= 96) {
			t.Error(n, e)
		}
	}
}

// TestMaskInSubroutine: the bytes are those behind the mask, there.
func TestMaskInSubroutine(t *testing.T) {
	p := api.Program{
		Code:   code{}.nums(1, 2).op(1).nums(-107).op(10).nums(-107).op(29).end(),
		Local:  [][]byte{{19, 14, 11}},
		Global: [][]byte{{20, 12, 11}},
	}
	if d, e := check(t, p); e != api.OK || d.Steps != 3+3+3+2+1 {
		t.Error(d, e)
	}
	p.Local[0] = []byte{19}
	if _, e := check(t, p); e != api.ErrChar {
		t.Error(e)
	}
}

func TestSteps(t *testing.T) {
	drop := code{139, 12, 18}
	all := code{}.times(9999, drop) // 19998 steps
	for _, c := range []struct {
		behind code
		e      api.Errno
	}{
		{code{1, 14}, api.OK},
		{code{139, 14}, api.OK},
		{code{14}, api.OK},
		{code{1, 1, 14}, api.ErrSteps},
		{code{1, 1, 2}, api.ErrSteps},
		{code{1, 1, 28}, api.ErrSteps},
		{code{1, 1, 12}, api.ErrSteps},
		{code{1, 1, 11}, api.ErrSteps},
		{code{1, 1}, api.ErrChar},
		{code{1, 2}, api.ErrChar},
		{code{1, 11}, api.ErrChar},
		{code{1, 28, 0}, api.ErrChar},
	} {
		d, e := check(t, api.Program{Code: append(all[:len(all):len(all)], c.behind...)})
		if e != c.e || e == api.OK && d.Steps != 19998+len(c.behind) {
			t.Error(c.behind, d.Steps, e)
		}
	}
}

// TestOnAndOn: subroutines that call one another often, and one that calls itself.
func TestOnAndOn(t *testing.T) {
	var list [][]byte
	for i := range 10 {
		list = append(list, code{}.times(10, code{}.nums(i+1-107).op(10)).op(11))
	}
	list = append(list, code{11})
	if _, e := check(t, api.Program{Code: code{}.nums(-106).op(10), Local: list}); e != api.ErrSteps {
		t.Error(e)
	}
	for _, op := range []int{10, 29} {
		self := [][]byte{code{}.nums(-107).op(op).op(11)}
		if _, e := check(t, api.Program{Code: code{}.nums(-107).op(op), Local: self, Global: self}); e != api.ErrSubr {
			t.Error(e)
		}
	}
	long := make([]byte, 1<<20)
	long[0] = 11
	again := code{}.times(6000, code{}.nums(-107).op(10)).end()
	if d, e := type2.Run(api.Program{Code: again, Local: [][]byte{long}}); e != api.OK || d.Steps != 18001 {
		t.Error(d, e)
	}
}

// TestDepth: as deep as may be, by both kinds of calls in turn.
func TestDepth(t *testing.T) {
	for deep := range 14 {
		list := make([][]byte, deep)
		for i := range list {
			list[i] = code{}.nums(i + 1 - 107).op([]int{10, 29}[i%2]).op(11)
			if i == deep-1 {
				list[i] = code{}.nums(1).op(22).op(11)
			}
		}
		c := code{}.nums(-107).op(29).nums(3).op(6).end()
		d, e := check(t, api.Program{Code: c, Local: list, Global: list})
		want := api.OK
		if deep == 0 || deep > 10 {
			want = api.ErrSubr
		}
		if e != want || e == api.OK && (d.Outline[0][1].X != 4*one || d.Steps != 3*deep+5) {
			t.Error(deep, d, e)
		}
		if deep > 0 { // an end there is the end of all
			list[deep-1] = code{14}
			d, e := check(t, api.Program{Code: code{}.nums(-107).op(10).op(2), Local: list, Global: list})
			if e != want || e == api.OK && d.Steps != 2*deep+1 {
				t.Error("end", deep, d, e)
			}
		}
	}
	for i := range 3 { // once back, it is as deep as before
		list := [][]byte{code{}.nums(1 - 107).op(10).nums(2 - 107).op(10).op(11), code{11}, code{11}}
		if _, e := check(t, api.Program{Code: code{}.times(30, code{}.nums(i-107).op(10)).end(), Local: list}); e != api.OK {
			t.Error(i, e)
		}
	}
}

func TestBias(t *testing.T) {
	for _, c := range [][2]int{{0, 107}, {1, 107}, {1239, 107}, {1240, 1131}, {1241, 1131}, {33899, 1131}, {33900, 32768}, {65535, 32768}, {1 << 20, 32768}, {math.MaxInt, 32768}, {-1, 107}, {math.MinInt, 107}, {-1 << 32, 107}, {1<<32 + 5, 32768}} {
		if b := type2.Bias(c[0]); b != c[1] {
			t.Error(c, b)
		}
	}
	for _, n := range []int{0, 1, 2, 214, 1239, 1240, 33899, 33900, 65535} {
		list := make([][]byte, n)
		for i := range list {
			list[i] = code{}.raw(i).op(22).nums(1).op(6).op(14)
		}
		b := 107
		if n >= 1240 {
			b = 1131
		}
		if n >= 33900 {
			b = 32768
		}
		for _, i := range []int{-1, 0, 1, 106, 107, 108, n - 2, n - 1, n, n + 1} {
			for _, part := range []int{0, 1, 65535} {
				p := api.Program{Code: code{}.raw((i-b)*one + part).op(10).op(2)}
				q := api.Program{Code: code{}.raw((i-b)*one + part).op(29).op(2), Global: list}
				p.Local = list
				if x := (i-b)*one + part; x < -1<<31 || x > 1<<31-1 {
					continue
				}
				for _, p := range []api.Program{p, q} {
					d, e := type2.Run(p)
					if i < 0 || i >= n {
						if e != api.ErrSubr {
							t.Error("there is none", n, i, e)
						}
					} else if e != api.OK || d.Outline[0][0].X != i {
						t.Error(n, i, part, d, e)
					}
				}
			}
		}
	}
}

func TestCalls(t *testing.T) {
	list := [][]byte{{11}, nil, {139}}
	for _, c := range []struct {
		code code
		e    api.Errno
	}{
		{code{10}, api.ErrStack},
		{code{29}, api.ErrStack},
		{code{11}, api.ErrChar},
		{code{139, 11}, api.ErrChar},
		{code{}.nums(-107).op(10).op(11), api.ErrChar},
		{code{}.nums(-107).op(10), api.ErrChar},
		{code{}.nums(-106).op(10).end(), api.ErrChar},
		{code{}.nums(-105).op(10).end(), api.ErrChar},
		{code{}.nums(-104).op(10).end(), api.ErrSubr},
		{code{}.nums(-108).op(10).end(), api.ErrSubr},
		{code{}.nums(-32768).op(10).end(), api.ErrSubr},
		{code{}.raw(1<<31 - 1).op(10).end(), api.ErrSubr},
		{code{}.raw(-107*one - 1).op(10).end(), api.ErrSubr},
		{code{}.nums(-107).op(29).end(), api.ErrSubr},
		{code{}.nums(-107).op(10).end(), api.OK},
		{code{}.nums(1, -107).op(10).op(22).end(), api.OK},
	} {
		if _, e := check(t, api.Program{Code: c.code, Local: list}); e != c.e {
			t.Error(c.code, e)
		}
	}
}

func TestPoints(t *testing.T) {
	move := code{139, 22}
	line := code{139, 6}
	curve := code{139, 139, 139, 139, 139, 139, 8}
	for _, c := range []struct {
		code   code
		e      api.Errno
		points int
	}{
		{code{}.times(1, move).times(4095, line).end(), api.OK, 4096},
		{code{}.times(1, move).times(4096, line).end(), api.ErrPoints, 0},
		{code{}.times(1, move).times(4096, line).op(2), api.ErrPoints, 0},
		{code{}.times(1, move).times(4095, line).op(2), api.ErrChar, 0},
		{code{}.times(2, move).times(4094, line).end(), api.OK, 4095},
		{code{}.times(2, move).times(4095, line).end(), api.ErrPoints, 0},
		{code{}.times(4096, move).end(), api.OK, 0},
		{code{}.times(4097, move).end(), api.ErrPoints, 0},
		{code{}.times(4096, move).times(1, line).op(2), api.ErrPoints, 0},
		{code{}.times(1, move).times(1365, curve).end(), api.OK, 4096},
		{code{}.times(2, move).times(1365, curve).op(2), api.ErrPoints, 0},
		{code{}.times(3, move).times(1365, curve).op(2), api.ErrPoints, 0},
		{code{}.times(256, append(move[:2:2], line...)).end(), api.OK, 512},
		{code{}.times(257, append(move[:2:2], line...)).end(), api.ErrPoints, 0},
		{code{}.times(257, append(move[:2:2], line...)).op(2), api.ErrChar, 0},
		{code{}.times(256, append(code{139, 22, 139, 22}, line...)).end(), api.OK, 512},
		{code{}.times(256, append(move[:2:2], line...)).times(9, move).end(), api.OK, 512},
	} {
		d, e := check(t, api.Program{Code: c.code})
		if e != c.e || outline.Count(d.Outline) != c.points {
			t.Error(len(c.code), e, outline.Count(d.Outline))
		}
	}
}

// TestOver: places at the bounds of numbers, and steps beyond them.
func TestOver(t *testing.T) {
	far, low := 1<<31-1, -1<<31
	for _, c := range []struct {
		code code
		e    api.Errno
	}{
		{code{}.raw(far, low).op(21).raw(1).op(6).end(), api.OK},
		{code{}.raw(far, low).op(21).raw(2).op(6).end(), api.ErrOver},
		{code{}.raw(far, low).op(21).raw(-1).op(7).end(), api.ErrOver},
		{code{}.raw(far, low).op(21).raw(far, 0).op(5).end(), api.ErrOver},
		{code{}.raw(far).op(22).raw(2).op(22).end(), api.ErrOver},
		{code{}.raw(far).op(4).raw(2).op(4).end(), api.ErrOver},
		{code{}.raw(far).op(4).raw(1).op(4).raw(low).op(4).end(), api.OK},
		{code{}.nums(0).op(22).raw(0, 0, low, 0, 0, 0, 0).op(1234).end(), api.OK},
		{code{}.nums(0).op(22).raw(0, low, 0, low, 0, 0, 0, 0, 0).op(1236).end(), api.ErrOver},
		{code{}.nums(0).op(22).raw(0, low, 0, far, 0, 0, 0, 0, 0).op(1236).end(), api.OK},
		{code{}.nums(0).op(22).raw(0, low, 0, 0, 0, 0, 0, 0, 0).op(1236).end(), api.OK},
		{code{}.nums(0).op(22).raw(0, -5, 0, -6, 0, 0, 0, low+11, 0).op(1236).end(), api.OK},
		{code{}.raw(low).op(4).raw(0, far, 0, far, 0, 0, 0, 0, 0).op(1236).end(), api.ErrOver},
		{code{}.raw(low).op(4).raw(0, far, 0, 1, 0, 0, 0, 0, 0).op(1236).end(), api.OK},
		{code{}.raw(low).op(4).raw(0, far, 0, 2, 0, 0, 0, 0, 0).op(1236).end(), api.ErrOver},
		{code{}.raw(low).op(22).raw(far, 0, far, 0, 0, 0, 0, 0, 0, 0, 0).op(1237).end(), api.OK},
		{code{}.raw(low, low).op(21).raw(0, far, 0, 1, 0, 0, 0, 0, 0, 0, 0).op(1237).end(), api.OK},
		{code{}.raw(low, low).op(21).raw(0, far, 0, 2, 0, 0, 0, 0, 0, 0, 0).op(1237).end(), api.OK},
		{code{}.raw(low, low).op(21).raw(1, far, 0, far, 0, 3, 0, 0, 0, 0, 0).op(1237).end(), api.ErrOver},
		{code{}.raw(far, low).op(21).raw(0, far, 0, far, 0, 0, 0, 0, 0, 0, 2).op(1237).end(), api.OK},
		{code{}.raw(far, low).op(21).raw(0, far, 0, far, 0, 0, 0, 0, 0, 0, 3).op(1237).end(), api.ErrOver},
		{code{}.raw(low, low).op(21).raw(far, far, far, 1, 0, 0, 0, 0, 0, 0, 0).op(1237).end(), api.OK},
		{code{}.raw(low, low).op(21).raw(far, far, far, 2, 0, 0, 0, 0, 0, 0, 0).op(1237).end(), api.ErrOver},
		{code{}.raw(low, low).op(21).raw(far, far, 1, far, 0, 0, 0, 0, 0, 0, 0).op(1237).end(), api.OK},
		{code{}.raw(low, low).op(21).raw(far, far, 2, far, 0, 0, 0, 0, 0, 0, 0).op(1237).end(), api.ErrOver},
	} {
		if _, e := check(t, api.Program{Code: c.code}); e != c.e {
			t.Error(c.code, e)
		}
	}
	lines := code{}.raw(far).op(22).times(4095, code{139, 6})
	if _, e := check(t, api.Program{Code: append(lines[:len(lines):len(lines)], code{}.raw(2).op(6)...)}); e != api.ErrOver {
		t.Error("the place is told ahead of how many points there are", e)
	}
	curves := code{}.raw(far).op(22).times(4094, code{139, 6}).raw(0, 0, 0, 0, 2, 0).op(8)
	if _, e := check(t, api.Program{Code: curves}); e != api.ErrPoints {
		t.Error("how many points there are is told ahead of the next one's place", e)
	}
}

// maker makes charstrings that may be, token by token.
type maker struct {
	r      *rand.Rand
	tokens []code
	stems  int
	begun  bool
}

func (m *maker) number() {
	x := (m.r.Intn(600) - 300) * one
	switch m.r.Intn(6) {
	case 0:
		x = m.r.Intn(200*one) - 100*one
	case 1:
		x = (m.r.Intn(5000) - 2500) * one
	}
	m.tokens = append(m.tokens, num(x))
}

// operands is so many numbers; some of them are reckoned.
func (m *maker) operands(n int) {
	for range n {
		m.number()
		if n < 40 && m.r.Intn(12) == 0 {
			m.number()
			m.tokens = append(m.tokens, code{}.op([]int{1210, 1211, 1203, 1204, 1215}[m.r.Intn(5)]))
		} else if n < 40 && m.r.Intn(20) == 0 {
			m.tokens = append(m.tokens, code{}.op([]int{1209, 1214, 1205}[m.r.Intn(3)]))
		} else if n < 40 && m.r.Intn(30) == 0 {
			m.tokens = append(m.tokens, code{}.op(1223), code{}.op(1218))
		}
	}
}

func (m *maker) op(op, n int) {
	if !m.begun && slices.Contains(wide, op) && m.r.Intn(2) == 0 {
		n++
	}
	m.begun = true
	m.operands(n)
	c := code{}.op(op)
	if op == 19 || op == 20 {
		m.stems += n / 2
		for range (m.stems + 7) / 8 {
			c = append(c, byte(m.r.Intn(256)))
		}
	}
	m.tokens = append(m.tokens, c)
}

func (m *maker) make() {
	for range m.r.Intn(3) {
		n := m.r.Intn(5)
		m.op([]int{1, 3, 18, 23}[m.r.Intn(4)], 2*n)
		m.stems += n
	}
	for range m.r.Intn(5) {
		switch m.r.Intn(4) {
		case 0:
			m.op(21, 2)
		case 1:
			m.op(22, 1)
		case 2:
			m.op(4, 1)
		default:
			m.op(19+m.r.Intn(2), 2*m.r.Intn(2))
			m.op(21, 2)
		}
		for range m.r.Intn(5) {
			op := draws[m.r.Intn(len(draws))]
			n := 1 + m.r.Intn(46)
			for !fits[op](n) {
				n = 1 + m.r.Intn(46)
			}
			m.op(op, n)
		}
	}
	m.op(14, 0)
}

func joined(tokens []code) code {
	var c code
	for _, t := range tokens {
		c = append(c, t...)
	}
	return c
}

// fold puts parts of a charstring into subroutines, and some of these again.
func fold(r *rand.Rand, tokens []code, p *api.Program, deep int) code {
	var c code
	for len(tokens) > 0 {
		n := min(len(tokens), 1+r.Intn(12))
		part := joined(tokens[:n])
		if deep < 9 && r.Intn(2) == 0 {
			inner := fold(r, tokens[:n], p, deep+1)
			if n < len(tokens) || deep > 0 || r.Intn(2) == 0 {
				inner = append(inner, 11)
			}
			if r.Intn(2) == 0 {
				p.Local = append(p.Local, inner)
				part = code{}.nums(len(p.Local) - 1 - 107).op(10)
			} else {
				p.Global = append(p.Global, inner)
				part = code{}.nums(len(p.Global) - 1 - 107).op(29)
			}
		}
		c = append(c, part...)
		tokens = tokens[n:]
	}
	return c
}

// TestFolded is P18.2, of drawn charstrings that may be.
func TestFolded(t *testing.T) {
	r := rand.New(rand.NewSource(18))
	reached := map[string]int{}
	for range 4000 {
		m := &maker{r: r}
		m.make()
		p := api.Program{Code: joined(m.tokens), Default: 3, Nominal: 1000, Draws: []int{r.Intn(1 << 17)}}
		d, e := checkReached(t, p, reached)
		if e != api.OK || d.Steps != len(m.tokens) {
			t.Fatal(p, d, e)
		}
		for _, c := range d.Outline {
			for _, q := range c {
				if q.Kind == api.PointQuad {
					t.Fatal("a quad", d)
				}
			}
		}
		q := p
		q.Code = fold(r, m.tokens, &q, 0)
		f, e := checkReached(t, q, reached)
		if e != api.OK || f.Width != d.Width || !reflect.DeepEqual(f.Outline, d.Outline) {
			t.Fatal("folded", p, q, d, f, e)
		}
	}
	for _, what := range []string{"width", "call", "back", "drawn"} {
		if reached[what] < 1000 {
			t.Error("too few", reached)
		}
	}
}

// TestChanged: bytes of charstrings and subroutines changed, left out, put in.
func TestChanged(t *testing.T) {
	r := rand.New(rand.NewSource(81))
	kinds := map[api.Errno]int{}
	change := func(b []byte) []byte {
		b = slices.Clone(b)
		if len(b) == 0 {
			return b
		}
		i := r.Intn(len(b))
		switch r.Intn(5) {
		case 0:
			b[i] = byte(r.Intn(256))
		case 1:
			b[i] = byte(r.Intn(32))
		case 2:
			return b[:i]
		case 3:
			return slices.Delete(b, i, i+1)
		default:
			return slices.Insert(b, i, byte(r.Intn(40)))
		}
		return b
	}
	for range 4000 {
		m := &maker{r: r}
		m.make()
		p := api.Program{Nominal: 1<<31 - 250*one}
		p.Code = fold(r, m.tokens, &p, 0)
		for range 10 {
			q := api.Program{Code: change(p.Code), Nominal: p.Nominal, Local: slices.Clone(p.Local), Global: slices.Clone(p.Global)}
			if n := len(q.Local); n > 0 && r.Intn(3) == 0 {
				q.Code = p.Code
				i := r.Intn(n)
				q.Local[i] = change(q.Local[i])
			}
			if n := len(q.Global); n > 0 && r.Intn(4) == 0 {
				q.Code = p.Code
				i := r.Intn(n)
				q.Global[i] = change(q.Global[i])
			}
			_, e := check(t, q)
			kinds[e]++
		}
	}
	for e, least := range map[api.Errno]int{api.OK: 2000, api.ErrChar: 2000, api.ErrStack: 300, api.ErrSubr: 100, api.ErrOver: 100, api.ErrSeac: 5} {
		if kinds[e] < least {
			t.Error("too few of", e, kinds)
		}
	}
}

// TestBytes: drawn bytes, most of them of operators.
func TestBytes(t *testing.T) {
	r := rand.New(rand.NewSource(188))
	some := func() []byte {
		b := make([]byte, r.Intn(40))
		for i := range b {
			b[i] = byte(r.Intn([]int{12, 32, 140, 256}[r.Intn(4)]))
			if r.Intn(3) == 0 {
				b[i] = byte(139 + r.Intn(6))
			}
			if r.Intn(9) == 0 {
				b[i] = []byte{10, 29}[r.Intn(2)]
			}
			if r.Intn(9) == 0 {
				b[i] = byte(139 - 107 + r.Intn(4))
			}
		}
		return b
	}
	kinds := map[api.Errno]int{}
	for range 60000 {
		p := api.Program{Code: append(code{}.nums(0).op(22), some()...), Local: [][]byte{some(), some(), some()}, Global: [][]byte{some(), some()}, Draws: []int{r.Int()}}
		_, e := check(t, p)
		kinds[e]++
	}
	if kinds[api.OK] < 300 || kinds[api.ErrSubr] < 100 || kinds[api.ErrStack] < 1000 {
		t.Error("too few", kinds)
	}
}

func TestNothing(t *testing.T) {
	for _, p := range []api.Program{{}, {Code: []byte{}}, {Local: [][]byte{{14}}, Global: [][]byte{{14}}, Draws: []int{1}}} {
		if d, e := type2.Run(p); e != api.ErrChar || !reflect.DeepEqual(d, api.Drawn{}) {
			t.Error(d, e)
		}
	}
}

func TestMemory(t *testing.T) {
	room := append(code{}.nums(-107).op(10).nums(-107).op(29).nums(3).op(22).op(1223).op(6).op(14), 99, 98, 97)
	sub := append(code{}.nums(1, 2).op(21).nums(3, 4, 5, 6).op(5).op(11), 99)
	p := api.Program{Code: room[:len(room)-3], Local: [][]byte{sub[:len(sub)-1], {1}}[:1], Global: [][]byte{sub[:len(sub)-1]}, Draws: []int{9, 8}[:1]}
	rooms, subs := slices.Clone(room), slices.Clone(sub)
	want, e := type2.Run(p)
	if e != api.OK || len(want.Outline) != 3 {
		t.Fatal(want, e)
	}
	d, _ := type2.Run(p)
	for _, c := range d.Outline {
		c = c[:cap(c)]
		for i := range c {
			c[i] = api.Point{X: -9, Y: -9, Kind: -9}
		}
	}
	l := d.Outline[:cap(d.Outline)]
	for i := range l {
		l[i] = nil
	}
	if again, e := type2.Run(p); e != api.OK || !reflect.DeepEqual(again, want) {
		t.Error("changed by what was answered", again)
	}
	d, _ = type2.Run(p)
	for k := range d.Outline {
		c := d.Outline[k][:cap(d.Outline[k])]
		for i := range c {
			c[i] = api.Point{}
		}
		for j := k + 1; j < len(d.Outline); j++ {
			if !slices.Equal(d.Outline[j], want.Outline[j]) {
				t.Error("contours share", k, j)
			}
		}
	}
	if !slices.Equal(room, rooms) || !slices.Equal(sub, subs) || p.Draws[:2][1] != 8 || len(p.Local[:2][1]) != 1 {
		t.Error("arguments changed")
	}
	d, _ = type2.Run(p)
	for i := range room {
		room[i] = 0
	}
	for i := range sub {
		sub[i] = 0
	}
	p.Draws[0] = 0
	if !reflect.DeepEqual(d, want) {
		t.Error("arguments kept", d)
	}
}

func TestAtOnce(t *testing.T) {
	m := &maker{r: rand.New(rand.NewSource(5))}
	m.make()
	p := api.Program{}
	p.Code = fold(m.r, m.tokens, &p, 0)
	want, e := type2.Run(p)
	var all sync.WaitGroup
	for range 8 {
		all.Go(func() {
			for range 50 {
				if d, f := type2.Run(p); f != e || !reflect.DeepEqual(d, want) {
					t.Error(d, f)
				}
			}
		})
	}
	all.Wait()
}
