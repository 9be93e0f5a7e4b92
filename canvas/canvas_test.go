package canvas_test

import (
	"bytes"
	"math"
	"math/rand"
	"slices"
	"sync"
	"testing"

	"serif/api"
	"serif/canvas"
)

const (
	mostShift = 1 << 20
	far       = 1 << 31
)

func box(x0, y0, x1, y1 int) api.Box { return api.Box{X0: x0, Y0: y0, X1: x1, Y1: y1} }

// plainMix is what is put, by the chapter's words: the greatest whole number that is not above the quotient.
func plainMix(d, c, m int) int {
	n := 0
	for 255*(n+1) <= d*(255-m)+c*m+127 {
		n++
	}
	return n
}

// mixes is plainMix of all bytes, reckoned once.
type mixes [256][256][256]byte

var allMixes = sync.OnceValue(func() *mixes {
	var l mixes
	for d := range l {
		for c := range l[d] {
			for m := range l[d][c] {
				// From one m to the next it goes a step up or down, or stays: so the reckoning begins near its end.
				n := 0
				if m > 0 {
					n = max(0, int(l[d][c][m-1])-2)
				}
				for 255*(n+1) <= d*(255-m)+c*m+127 {
					n++
				}
				l[d][c][m] = byte(n)
			}
		}
	}
	return &l
})

// plain is a canvas's pixels, row by row.
type plain [][]int

func plainOf(width, height, c int) plain {
	var p plain
	for range height {
		p = append(p, slices.Repeat([]int{c}, width))
	}
	return p
}

func (p plain) fork() plain {
	var q plain
	for _, row := range p {
		q = append(q, slices.Clone(row))
	}
	return q
}

func (p plain) bytes() []byte {
	var l []byte
	for _, row := range p {
		for _, d := range row {
			l = append(l, byte(d))
		}
	}
	return l
}

// each goes over all pixels that are asked for, pixel by pixel, and is the box from the first to the last of them.
func (p plain) each(is func(x, y int) bool, do func(x, y int)) api.Box {
	b := api.Box{}
	for y, row := range p {
		for x := range row {
			if !is(x, y) {
				continue
			}
			if do(x, y); b == (api.Box{}) {
				b = box(x, y, x+1, y+1)
			}
			b = box(min(b.X0, x), min(b.Y0, y), max(b.X1, x+1), max(b.Y1, y+1))
		}
	}
	return b
}

func (p plain) blend(m api.Mask, dx, dy, c int) api.Box {
	b := m.Box
	return p.each(
		func(x, y int) bool { return b.X0 <= x-dx && x-dx < b.X1 && b.Y0 <= y-dy && y-dy < b.Y1 },
		func(x, y int) {
			p[y][x] = int(allMixes()[p[y][x]][c][m.Rows[(y-dy-b.Y0)*(b.X1-b.X0)+x-dx-b.X0]])
		})
}

func (p plain) fill(b api.Box, c int) api.Box {
	return p.each(
		func(x, y int) bool { return b.X0 <= x && x < b.X1 && b.Y0 <= y && y < b.Y1 },
		func(x, y int) { p[y][x] = c })
}

// same asks that a canvas has these pixels, and no others.
func same(t *testing.T, v *canvas.Canvas, p plain, what ...any) {
	t.Helper()
	width, height := v.Size()
	if width != len(p[0]) || height != len(p) || !bytes.Equal(v.Bytes(), p.bytes()) {
		t.Fatal(what, "have", width, height, v.Bytes(), "should be", len(p[0]), len(p), p)
	}
}

// of is a canvas that may be.
func of(t *testing.T, width, height, c int) *canvas.Canvas {
	t.Helper()
	v, e := canvas.New(width, height, c)
	if e != api.OK || v == nil {
		t.Fatal(width, height, c, v, e)
	}
	return v
}

// drawn is a canvas of drawn bytes, made by masks that cover their pixels whole.
func drawn(t *testing.T, draw *rand.Rand, width, height int) (*canvas.Canvas, plain) {
	t.Helper()
	v, p := of(t, width, height, 0), plainOf(width, height, 0)
	for y := range height {
		for x := range width {
			p[y][x] = draw.Intn(256)
			if b, e := v.Fill(box(x, y, x+1, y+1), p[y][x]); b != box(x, y, x+1, y+1) || e != api.OK {
				t.Fatal(x, y, b, e)
			}
		}
	}
	same(t, v, p)
	return v, p
}

// mask is a mask of drawn bytes, often 0 or 255.
func mask(draw *rand.Rand, b api.Box) api.Mask {
	m := api.Mask{Box: b}
	for range (b.X1 - b.X0) * (b.Y1 - b.Y0) {
		m.Rows = append(m.Rows, []byte{0, 255, byte(draw.Intn(256)), byte(draw.Intn(256))}[draw.Intn(4)])
	}
	return m
}

func TestExample(t *testing.T) {
	if n, e := canvas.Mix(100, 200, 128); n != 150 || e != api.OK {
		t.Error(n, e)
	}
}

// TestMix of all bytes: by 0 nothing changes, by 255 the colour is put.
func TestMix(t *testing.T) {
	for _, x := range [][4]int{
		{0, 0, 0, 0}, {255, 255, 255, 255}, {0, 255, 255, 255}, {255, 0, 255, 0}, {0, 255, 0, 0}, {255, 0, 0, 255},
		{0, 255, 128, 128}, {255, 0, 128, 127}, {0, 1, 127, 0}, {0, 1, 128, 1}, {1, 0, 127, 1}, {1, 0, 128, 0}, {10, 20, 1, 10}, {10, 20, 12, 10}, {10, 20, 13, 11}, {77, 77, 200, 77},
	} {
		if n, e := canvas.Mix(x[0], x[1], x[2]); n != x[3] || e != api.OK || plainMix(x[0], x[1], x[2]) != x[3] {
			t.Error(x, n, e)
		}
	}
	all := allMixes()
	for d := range 256 {
		for c := range 256 {
			for m := range 256 {
				n, e := canvas.Mix(d, c, m)
				if n != int(all[d][c][m]) || e != api.OK || m == 0 && n != d || m == 255 && n != c {
					t.Fatal(d, c, m, n, e, all[d][c][m])
				}
			}
		}
	}
	draw := rand.New(rand.NewSource(26))
	for range 2000 {
		d, c, m := draw.Intn(256), draw.Intn(256), draw.Intn(256)
		if plainMix(d, c, m) != int(all[d][c][m]) {
			t.Fatal(d, c, m)
		}
	}
}

// wrongBytes is numbers that are no byte.
func wrongBytes() []int {
	return []int{-1, 256, -255, -256, 511, 1 << 16, 1 << 32, 1<<32 + 5, math.MinInt, math.MaxInt}
}

func TestMixRefused(t *testing.T) {
	for _, wrong := range wrongBytes() {
		for _, x := range [][3]int{{wrong, 0, 0}, {0, wrong, 0}, {0, 0, wrong}, {wrong, 255, 255}, {255, wrong, 255}, {255, 255, wrong}, {wrong, wrong, wrong}, {wrong, -wrong, 128}} {
			if n, e := canvas.Mix(x[0], x[1], x[2]); n != 0 || e != api.ErrArg {
				t.Error(x, n, e)
			}
		}
	}
}

func TestNew(t *testing.T) {
	for _, x := range [][3]int{{1, 1, 0}, {1, 1, 255}, {2, 3, 7}, {3, 2, 128}, {1, 4096, 1}, {4096, 1, 254}, {4096, 4096, 200}, {4095, 2, 255}, {17, 19, 0}} {
		v := of(t, x[0], x[1], x[2])
		if width, height := v.Size(); width != x[0] || height != x[1] {
			t.Error(x, width, height)
		}
		if !bytes.Equal(v.Bytes(), bytes.Repeat([]byte{byte(x[2])}, x[0]*x[1])) {
			t.Error(x)
		}
		for _, at := range [][2]int{{0, 0}, {x[0] - 1, 0}, {0, x[1] - 1}, {x[0] - 1, x[1] - 1}} {
			if c := v.At(at[0], at[1]); c != x[2] {
				t.Error(x, at, c)
			}
		}
	}
	refused := func(width, height, c int) {
		if v, e := canvas.New(width, height, c); v != nil || e != api.ErrArg {
			t.Error(width, height, c, v, e)
		}
	}
	for _, side := range []int{0, -1, 4097, 1 << 16, 1 << 32, 1<<32 + 1, math.MinInt, math.MaxInt} {
		refused(side, 1, 0)
		refused(1, side, 0)
		refused(side, side, 0)
		refused(side, side, -1)
		refused(4096, side, 255)
		refused(side, 4096, 255)
	}
	for _, c := range wrongBytes() {
		refused(1, 1, c)
		refused(4096, 4096, c)
		refused(0, 0, c)
	}
}

// TestAt: where there is no such pixel, there is 0: no other row's byte either.
func TestAt(t *testing.T) {
	draw := rand.New(rand.NewSource(27))
	for _, size := range [][2]int{{1, 1}, {3, 4}, {5, 2}, {1, 9}, {9, 1}} {
		v, p := drawn(t, draw, size[0], size[1])
		for y := range p {
			for x := range p[y] {
				if c := v.At(x, y); c != p[y][x] {
					t.Fatal(size, x, y, c, p[y][x])
				}
			}
		}
		v.Fill(box(0, 0, size[0], size[1]), 255)
		xs := []int{0, size[0] - 1, size[0], size[0] + 1, -1, -size[0], 1 << 32, -(1 << 32), 1<<32 - 1, far, -far, math.MinInt, math.MaxInt}
		ys := []int{0, size[1] - 1, size[1], size[1] + 1, -1, -size[1], 1 << 32, -(1 << 32), 1<<32 - 1, far, -far, math.MinInt, math.MaxInt}
		for _, x := range xs {
			for _, y := range ys {
				want := 0
				if 0 <= x && x < size[0] && 0 <= y && y < size[1] {
					want = 255
				}
				if c := v.At(x, y); c != want {
					t.Error(size, x, y, c, want)
				}
			}
		}
	}
}

// TestFork: what is done to one is not seen on the other one.
func TestFork(t *testing.T) {
	draw := rand.New(rand.NewSource(28))
	for range 50 {
		v, p := drawn(t, draw, 1+draw.Intn(6), 1+draw.Intn(6))
		w, q := v.Fork(), p.fork()
		if w == v {
			t.Fatal("is no other canvas")
		}
		same(t, w, q)
		for range 5 {
			b, m, c := box(draw.Intn(3), draw.Intn(3), draw.Intn(9), draw.Intn(9)), mask(draw, box(0, 0, 3, 3)), draw.Intn(256)
			v.Fill(b, c)
			p.fill(b, c)
			same(t, v, p)
			same(t, w, q)
			w.Blend(m, 1, -1, c)
			q.blend(m, 1, -1, c)
			same(t, v, p)
			same(t, w, q)
		}
		x := w.Fork()
		v.Fill(box(0, 0, 9, 9), 3)
		same(t, w, q)
		same(t, x, q)
	}
}

// TestFillAll: all boxes of small numbers, empty ones and those turned round too.
func TestFillAll(t *testing.T) {
	draw := rand.New(rand.NewSource(29))
	v, p := drawn(t, draw, 3, 2)
	places := []int{-2, -1, 0, 1, 2, 3, 4}
	for _, x0 := range places {
		for _, y0 := range places {
			for _, x1 := range places {
				for _, y1 := range places {
					w, q, c := v.Fork(), p.fork(), draw.Intn(256)
					b, e := w.Fill(box(x0, y0, x1, y1), c)
					if want := q.fill(box(x0, y0, x1, y1), c); b != want || e != api.OK {
						t.Fatal(x0, y0, x1, y1, b, e, want)
					}
					same(t, w, q, x0, y0, x1, y1)
				}
			}
		}
	}
}

func TestFillFar(t *testing.T) {
	for _, x := range []struct{ b, want api.Box }{
		{box(-far, -far, far, far), box(0, 0, 3, 2)},
		{box(1, -far, far, 1), box(1, 0, 3, 1)},
		{box(-far, 1, 2, far), box(0, 1, 2, 2)},
		{box(far, far, -far, -far), api.Box{}},
		{box(far-1, 0, far, 1), api.Box{}},
		{box(-far, 0, -far+1, 1), api.Box{}},
		{box(0, 0, 0, 0), api.Box{}},
		{box(far, far, far, far), api.Box{}},
		{box(-far, 0, far, 0), api.Box{}},
	} {
		for c := range 256 {
			v, p := of(t, 3, 2, 9), plainOf(3, 2, 9)
			if b, e := v.Fill(x.b, c); b != x.want || e != api.OK || p.fill(x.b, c) != x.want {
				t.Error(x, c, b, e)
			}
			same(t, v, p, x)
		}
	}
	v := of(t, 4096, 4096, 1)
	if b, e := v.Fill(box(1, 1, 4095, 4095), 2); b != box(1, 1, 4095, 4095) || e != api.OK {
		t.Error(b, e)
	}
	ones := bytes.Count(v.Bytes(), []byte{1})
	if twos := bytes.Count(v.Bytes(), []byte{2}); ones != 4*4095 || twos != 4094*4094 {
		t.Error(ones, twos)
	}
}

// wrongBoxes is boxes of which one number may not be.
func wrongBoxes() []api.Box {
	var l []api.Box
	for _, x := range []int{far + 1, -far - 1, 1 << 40, math.MinInt, math.MaxInt} {
		l = append(l, box(x, 0, 1, 1), box(0, x, 1, 1), box(0, 0, x, 1), box(0, 0, 1, x), box(x, x, x, x))
	}
	return l
}

func TestFillRefused(t *testing.T) {
	draw := rand.New(rand.NewSource(30))
	v, p := drawn(t, draw, 4, 3)
	refused := func(b api.Box, c int, want api.Errno) {
		t.Helper()
		if got, e := v.Fill(b, c); got != (api.Box{}) || e != want {
			t.Error(b, c, got, e, want)
		}
		same(t, v, p)
	}
	for _, b := range wrongBoxes() {
		refused(b, 0, api.ErrOver)
		refused(b, 255, api.ErrOver)
		refused(b, -1, api.ErrOver)
		refused(b, 256, api.ErrOver)
	}
	for _, c := range wrongBytes() {
		refused(box(0, 0, 4, 3), c, api.ErrArg)
		refused(box(-far, -far, far, far), c, api.ErrArg)
		refused(api.Box{}, c, api.ErrArg)
		refused(box(100, 100, 101, 101), c, api.ErrArg)
	}
}

// TestBlendInFull tells canvases byte by byte.
func TestBlendInFull(t *testing.T) {
	m := api.Mask{Box: box(-1, 2, 2, 4), Rows: []byte{0, 128, 255, 255, 64, 1}}
	for _, x := range []struct {
		dx, dy int
		b      api.Box
		rows   []byte
	}{
		{1, -2, box(0, 0, 3, 2), []byte{100, 150, 200, 100, 200, 125, 100, 100, 100, 100, 100, 100}},
		{0, -2, box(0, 0, 2, 2), []byte{150, 200, 100, 100, 125, 100, 100, 100, 100, 100, 100, 100}},
		{-1, -2, box(0, 0, 1, 2), []byte{200, 100, 100, 100, 100, 100, 100, 100, 100, 100, 100, 100}},
		{-2, -2, api.Box{}, []byte{100, 100, 100, 100, 100, 100, 100, 100, 100, 100, 100, 100}},
		{2, -2, box(1, 0, 4, 2), []byte{100, 100, 150, 200, 100, 200, 125, 100, 100, 100, 100, 100}},
		{3, -2, box(2, 0, 4, 2), []byte{100, 100, 100, 150, 100, 100, 200, 125, 100, 100, 100, 100}},
		{4, -2, box(3, 0, 4, 2), []byte{100, 100, 100, 100, 100, 100, 100, 200, 100, 100, 100, 100}},
		{5, -2, api.Box{}, []byte{100, 100, 100, 100, 100, 100, 100, 100, 100, 100, 100, 100}},
		{1, -3, box(0, 0, 3, 1), []byte{200, 125, 100, 100, 100, 100, 100, 100, 100, 100, 100, 100}},
		{1, -4, api.Box{}, []byte{100, 100, 100, 100, 100, 100, 100, 100, 100, 100, 100, 100}},
		{1, -1, box(0, 1, 3, 3), []byte{100, 100, 100, 100, 100, 150, 200, 100, 200, 125, 100, 100}},
		{1, 0, box(0, 2, 3, 3), []byte{100, 100, 100, 100, 100, 100, 100, 100, 100, 150, 200, 100}},
		{1, 1, api.Box{}, []byte{100, 100, 100, 100, 100, 100, 100, 100, 100, 100, 100, 100}},
	} {
		v := of(t, 4, 3, 100)
		if b, e := v.Blend(m, x.dx, x.dy, 200); b != x.b || e != api.OK {
			t.Error(x.dx, x.dy, b, e)
		}
		if !bytes.Equal(v.Bytes(), x.rows) {
			t.Error(x.dx, x.dy, v.Bytes(), x.rows)
		}
	}
}

// TestBlendBytes: each byte of a mask onto each byte of a canvas.
func TestBlendBytes(t *testing.T) {
	m := api.Mask{Box: box(0, 0, 256, 256)}
	v, p := of(t, 256, 256, 0), plainOf(256, 256, 0)
	for y := range 256 {
		for x := range 256 {
			m.Rows = append(m.Rows, byte(x))
		}
		v.Fill(box(0, y, 256, y+1), y)
		p.fill(box(0, y, 256, y+1), y)
	}
	for c := range 256 {
		w, q := v.Fork(), p.fork()
		if b, e := w.Blend(m, 0, 0, c); b != box(0, 0, 256, 256) || e != api.OK {
			t.Fatal(c, b, e)
		}
		q.blend(m, 0, 0, c)
		same(t, w, q, c)
		for y := range 256 {
			if w.At(0, y) != y || w.At(255, y) != c {
				t.Fatal(c, y, w.At(0, y), w.At(255, y))
			}
		}
	}
}

// TestBlendAll: masks of all small sizes, at all places on and around a canvas.
func TestBlendAll(t *testing.T) {
	draw := rand.New(rand.NewSource(31))
	for _, size := range [][2]int{{1, 1}, {3, 2}, {2, 4}} {
		v, p := drawn(t, draw, size[0], size[1])
		for width := 1; width < 6; width++ {
			for height := 1; height < 6; height++ {
				x0, y0 := draw.Intn(20)-10, draw.Intn(20)-10
				m := mask(draw, box(x0, y0, x0+width, y0+height))
				for dx := -width - 1; dx <= size[0]+1; dx++ {
					for dy := -height - 1; dy <= size[1]+1; dy++ {
						w, q, c := v.Fork(), p.fork(), draw.Intn(256)
						b, e := w.Blend(m, dx-x0, dy-y0, c)
						if want := q.blend(m, dx-x0, dy-y0, c); b != want || e != api.OK {
							t.Fatal(m, dx, dy, b, e, want)
						}
						same(t, w, q, m, dx, dy, c)
					}
				}
			}
		}
	}
}

// TestBlendNothing: a mask without a box leaves all as it is; one that is cut off whole as well.
func TestBlendNothing(t *testing.T) {
	draw := rand.New(rand.NewSource(32))
	v, p := drawn(t, draw, 5, 5)
	for _, m := range []api.Mask{{}, {Rows: []byte{}}} {
		for _, at := range [][2]int{{0, 0}, {2, 3}, {-mostShift, mostShift}} {
			if b, e := v.Blend(m, at[0], at[1], 255); b != (api.Box{}) || e != api.OK {
				t.Error(at, b, e)
			}
			same(t, v, p)
		}
	}
	m := api.Mask{Box: box(0, 0, 2, 2), Rows: []byte{255, 255, 255, 255}}
	for _, at := range [][2]int{{5, 0}, {0, 5}, {-2, 0}, {0, -2}, {5, 5}, {-2, -2}, {mostShift, 0}, {0, -mostShift}, {mostShift, mostShift}, {-mostShift, -mostShift}} {
		if b, e := v.Blend(m, at[0], at[1], 255); b != (api.Box{}) || e != api.OK {
			t.Error(at, b, e)
		}
		same(t, v, p)
	}
	// A mask in which nothing is covered is gone to all the same.
	if b, e := v.Blend(api.Mask{Box: box(0, 0, 2, 2), Rows: make([]byte, 4)}, 1, 2, 255); b != box(1, 2, 3, 4) || e != api.OK {
		t.Error(b, e)
	}
	same(t, v, p)
}

// TestBlendFar: masks at the ends of what may be, brought onto the canvas.
func TestBlendFar(t *testing.T) {
	draw := rand.New(rand.NewSource(33))
	for _, b := range []api.Box{
		box(-16384, -16384, -16381, -16382), box(16381, 16382, 16384, 16384), box(-16384, 0, 16384, 2), box(3, -16384, 5, 16384), box(-1024, -1024, 1024, 1024),
	} {
		m := mask(draw, b)
		for range 20 {
			v, p := drawn(t, draw, 7, 6)
			dx, dy := draw.Intn(7)-[]int{b.X0, b.X1}[draw.Intn(2)], draw.Intn(6)-[]int{b.Y0, b.Y1}[draw.Intn(2)]
			c := draw.Intn(256)
			got, e := v.Blend(m, dx, dy, c)
			if want := p.blend(m, dx, dy, c); got != want || e != api.OK {
				t.Fatal(b, dx, dy, got, e, want)
			}
			same(t, v, p, b, dx, dy)
		}
	}
	// The largest canvas, and the largest mask.
	v := of(t, 4096, 4096, 10)
	m := api.Mask{Box: box(0, 0, 2048, 2048), Rows: bytes.Repeat([]byte{255}, 1<<22)}
	for _, at := range [][2]int{{0, 0}, {2048, 2048}, {4000, 100}} {
		want := box(at[0], at[1], min(4096, at[0]+2048), at[1]+2048)
		if b, e := v.Blend(m, at[0], at[1], 20); b != want || e != api.OK {
			t.Error(at, b, e)
		}
	}
	if n := bytes.Count(v.Bytes(), []byte{20}); n != 2*2048*2048+96*1948 {
		t.Error(n)
	}
}

// wrongMasks is some of each kind that may not be.
func wrongMasks() []api.Mask {
	var l []api.Mask
	add := func(b api.Box, n int) { l = append(l, api.Mask{Box: b, Rows: make([]byte, n)}) }
	add(api.Box{}, 1)
	for _, n := range []int{0, 1, 3, 5} {
		add(box(0, 0, 2, 2), n)
	}
	add(box(1, 1, 1, 1), 0)
	add(box(0, 0, 1, 0), 0)
	add(box(1, 1, 0, 0), 1)
	add(box(16384, 0, 16385, 1), 1)
	add(box(0, -16385, 1, -16384), 1)
	add(box(0, 0, 2049, 2048), 2049*2048)
	add(box(-far, -far, far, far), 0)
	add(box(math.MinInt, math.MinInt, math.MaxInt, math.MaxInt), 0)
	return l
}

// TestBlendRefused: each error at its bound, in order; nothing has changed.
func TestBlendRefused(t *testing.T) {
	draw := rand.New(rand.NewSource(34))
	v, p := drawn(t, draw, 4, 3)
	m := api.Mask{Box: box(0, 0, 2, 2), Rows: []byte{255, 255, 255, 255}}
	refused := func(m api.Mask, x, y, c int, want api.Errno) {
		t.Helper()
		if b, e := v.Blend(m, x, y, c); b != (api.Box{}) || e != want {
			t.Error(m.Box, x, y, c, b, e, want)
		}
		same(t, v, p)
	}
	for _, wrong := range wrongMasks() {
		refused(wrong, 0, 0, 0, api.ErrMask)
		refused(wrong, 0, 0, 256, api.ErrMask)
		refused(wrong, mostShift+1, 0, 0, api.ErrMask)
		refused(wrong, math.MinInt, math.MaxInt, -1, api.ErrMask)
	}
	for _, c := range wrongBytes() {
		refused(m, 0, 0, c, api.ErrArg)
		refused(m, mostShift+1, 0, c, api.ErrArg)
		refused(m, 0, -mostShift-1, c, api.ErrArg)
		refused(m, 1000, 1000, c, api.ErrArg)
		refused(api.Mask{}, 0, 0, c, api.ErrArg)
	}
	for _, x := range []int{mostShift + 1, -mostShift - 1, far, -far, 1 << 32, 1 << 33, math.MinInt, math.MaxInt} {
		refused(m, x, 0, 9, api.ErrOver)
		refused(m, 0, x, 9, api.ErrOver)
		refused(m, x, x, 9, api.ErrOver)
		refused(m, x, -mostShift, 0, api.ErrOver)
		refused(api.Mask{}, x, 0, 255, api.ErrOver)
		refused(api.Mask{}, 0, x, 255, api.ErrOver)
	}
}

// TestDrawn: many masks and boxes, one behind the other, on one canvas.
func TestDrawn(t *testing.T) {
	draw := rand.New(rand.NewSource(35))
	for range 60 {
		width, height := 1+draw.Intn(30), 1+draw.Intn(30)
		v, p := drawn(t, draw, width, height)
		for range 40 {
			x0, y0, c := draw.Intn(60)-30, draw.Intn(60)-30, draw.Intn(256)
			b := box(x0, y0, x0+1+draw.Intn(30), y0+1+draw.Intn(30))
			var got, want api.Box
			var e api.Errno
			if draw.Intn(4) == 0 {
				got, e = v.Fill(b, c)
				want = p.fill(b, c)
			} else {
				m, dx, dy := mask(draw, b), draw.Intn(80)-40, draw.Intn(80)-40
				got, e = v.Blend(m, dx, dy, c)
				want = p.blend(m, dx, dy, c)
			}
			if got != want || e != api.OK {
				t.Fatal(b, got, e, want)
			}
			same(t, v, p, b)
		}
	}
}

func TestNil(t *testing.T) {
	var v *canvas.Canvas
	if width, height := v.Size(); width != 0 || height != 0 || v.At(0, 0) != 0 || len(v.Bytes()) != 0 || v.Fork() != nil {
		t.Error(width, height)
	}
	for _, m := range append(wrongMasks(), api.Mask{}, api.Mask{Box: box(0, 0, 1, 1), Rows: []byte{1}}) {
		for _, c := range []int{0, 255, 256} {
			for _, x := range []int{0, mostShift + 1} {
				if b, e := v.Blend(m, x, 0, c); b != (api.Box{}) || e != api.ErrClosed {
					t.Error(m.Box, x, c, b, e)
				}
			}
		}
	}
	for _, b := range append(wrongBoxes(), api.Box{}, box(0, 0, 1, 1)) {
		for _, c := range []int{0, 255, -1} {
			if got, e := v.Fill(b, c); got != (api.Box{}) || e != api.ErrClosed {
				t.Error(b, c, got, e)
			}
		}
	}
}

// TestMemory: what was handed in, or answered, is changed afterwards, its spare room too.
func TestMemory(t *testing.T) {
	draw := rand.New(rand.NewSource(36))
	v, p := drawn(t, draw, 5, 4)
	for range 3 {
		l := v.Bytes()
		l = l[:cap(l)]
		for i := range l {
			l[i] = 77
		}
		same(t, v, p)
	}
	room := []byte{1, 2, 3, 4, 5, 6}
	m := api.Mask{Box: box(0, 0, 2, 2), Rows: room[:4]}
	v.Blend(m, 1, 1, 200)
	p.blend(m, 1, 1, 200)
	if !bytes.Equal(room, []byte{1, 2, 3, 4, 5, 6}) {
		t.Error("changes what is handed in", room)
	}
	old := v.Bytes()
	was := slices.Clone(old)
	clear(room)
	same(t, v, p)
	v.Fill(box(0, 0, 5, 4), 3)
	if !bytes.Equal(old, was) {
		t.Error("changes what was answered", old)
	}
}

// TestAtOnce: canvases know nothing of one another; one that is not changed is asked by many.
func TestAtOnce(t *testing.T) {
	first, p := drawn(t, rand.New(rand.NewSource(37)), 9, 9)
	m := api.Mask{Box: box(0, 0, 3, 3), Rows: []byte{0, 50, 100, 150, 200, 250, 255, 255, 255}}
	var all sync.WaitGroup
	for g := range 8 {
		all.Add(1)
		go func() {
			defer all.Done()
			v, q := first.Fork(), p.fork()
			for n := range 100 {
				v.Blend(m, n%11-1, g, 10*g)
				q.blend(m, n%11-1, g, 10*g)
				if first.At(g, g) != p[g][g] || !bytes.Equal(v.Bytes(), q.bytes()) {
					t.Error(g, n)
				}
			}
		}()
	}
	all.Wait()
	same(t, first, p)
}
