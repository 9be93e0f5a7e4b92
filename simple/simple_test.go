package simple_test

import (
	"bytes"
	"fmt"
	"math"
	"math/rand"
	"slices"
	"testing"

	"serif/api"
	"serif/outline"
	"serif/simple"
)

// on and quad are points of each kind, in whole units.
func on(x, y int) api.Point { return api.Point{X: x << 16, Y: y << 16, Kind: api.PointOn} }
func quad(x, y int) api.Point {
	return api.Point{X: x << 16, Y: y << 16, Kind: api.PointQuad}
}

// twos is numbers of 2 bytes, one behind the other.
func twos(l ...int) []byte {
	var b []byte
	for _, x := range l {
		b = append(b, byte(x>>8), byte(x))
	}
	return b
}

func two(b []byte, at int) int    { return int(b[at])<<8 | int(b[at+1]) }
func signed(b []byte, at int) int { return int(int8(b[at]))<<8 | int(b[at+1]) }

// list is numbers one behind the other.
func list[T any](l ...T) []T { return l }

// raw is a simple glyph's bytes: last points, so many instructions, and the rest; what is any is not 0.
func raw(lasts []int, instructions int, rest ...byte) []byte {
	b := append(twos(len(lasts)), 0x81, 0x82, 0x83, 0x84, 0x85, 0x86, 0x87, 0x88)
	b = append(append(b, twos(lasts...)...), twos(instructions)...)
	b = append(b, bytes.Repeat([]byte{0xEE}, instructions)...)
	return append(b, rest...)
}

// decodePlainly is what the chapter says of bytes, looked at from the first one on.
func decodePlainly(b []byte) ([][]api.Point, api.Errno) {
	if len(b) == 0 {
		return nil, api.OK
	}
	if len(b) < 2 || b[0] >= 128 {
		return nil, api.ErrGlyf
	}
	k := two(b, 0)
	if k > 256 {
		return nil, api.ErrPoints
	}
	last := -1
	for i := range k {
		if len(b) < 10+2*i+2 {
			return nil, api.ErrGlyf
		}
		x := two(b, 10+2*i)
		if x > 4095 {
			return nil, api.ErrPoints
		}
		if x <= last {
			return nil, api.ErrGlyf
		}
		last = x
	}
	if len(b) < 10+2*k+2 {
		return nil, api.ErrGlyf
	}
	points, ok := pointsPlainly(b, 10+2*k+2+two(b, 10+2*k), last+1)
	if !ok {
		return nil, api.ErrGlyf
	}
	o := make([][]api.Point, k)
	from := 0
	for i := range k {
		to := two(b, 10+2*i) + 1
		o[i], from = points[from:to], to
	}
	return o, api.OK
}

func pointsPlainly(b []byte, at, n int) ([]api.Point, bool) {
	var flags []byte
	for len(flags) < n {
		if at+2 > len(b) && (at+1 > len(b) || b[at]>>3&1 == 1) {
			return nil, false
		}
		flags = append(flags, b[at])
		if b[at]>>3&1 == 1 {
			flags = append(flags, bytes.Repeat(b[at:at+1], int(b[at+1]))...)
			at++
		}
		at++
	}
	if len(flags) > n || at > len(b) {
		return nil, false
	}
	axis := func(short, same int) []int {
		var l []int
		x := 0
		for _, f := range flags {
			kind := [2]byte{f >> short & 1, f >> same & 1}
			size := map[[2]byte]int{{1, 0}: 1, {1, 1}: 1, {0, 0}: 2}[kind]
			if at+size > len(b) {
				return nil
			}
			switch kind {
			case [2]byte{1, 1}:
				x += int(b[at])
			case [2]byte{1, 0}:
				x -= int(b[at])
			case [2]byte{0, 0}:
				x += signed(b, at)
			}
			if x < -32768 || x > 32767 {
				return nil
			}
			at += size
			l = append(l, x)
		}
		return l
	}
	xs := axis(1, 4)
	ys := axis(2, 5)
	if len(xs) < n || len(ys) < n {
		return nil, false
	}
	points := make([]api.Point, n)
	for i, f := range flags {
		points[i] = api.Point{X: xs[i] * 65536, Y: ys[i] * 65536, Kind: 2 - int(f&1)}
	}
	return points, true
}

// encodePlainly is the bytes of an outline that may be, has contours, and fits.
func encodePlainly(o [][]api.Point) []byte {
	var ends, xs, ys []int
	var flags, xBytes, yBytes []byte
	step := func(d int, b []byte, short, same byte) (byte, []byte) {
		switch {
		case d == 0:
			return same, b
		case d >= 1 && d <= 255:
			return short | same, append(b, byte(d))
		case d <= -1 && d >= -255:
			return short, append(b, byte(-d))
		}
		return 0, append(b, twos(d)...)
	}
	x, y := 0, 0
	for _, c := range o {
		for _, p := range c {
			var fx, fy byte
			fx, xBytes = step(p.X/65536-x, xBytes, 2, 16)
			fy, yBytes = step(p.Y/65536-y, yBytes, 4, 32)
			x, y = p.X/65536, p.Y/65536
			xs, ys = append(xs, x), append(ys, y)
			flags = append(flags, fx|fy|byte(2-p.Kind))
		}
		ends = append(ends, len(flags)-1)
	}
	b := twos(len(o), slices.Min(xs), slices.Min(ys), slices.Max(xs), slices.Max(ys))
	b = append(append(b, twos(ends...)...), 0, 0)
	b = append(b, packedPlainly(flags)...)
	return append(append(b, xBytes...), yBytes...)
}

func packedPlainly(flags []byte) []byte {
	var b []byte
	for i := 0; i < len(flags); {
		j := i
		for j+1 < len(flags) && flags[j+1] == flags[i] && j-i < 255 {
			j++
		}
		if j > i {
			b = append(b, flags[i]|8, byte(j-i))
		} else {
			b = append(b, flags[i])
		}
		i = j + 1
	}
	return b
}

// short tells the beginning of something long.
func short(x any) string {
	text := fmt.Sprint(x)
	return text[:min(len(text), 300)]
}

// decodesTo asks for an outline.
func decodesTo(t *testing.T, b []byte, want [][]api.Point) {
	t.Helper()
	o, e := simple.Decode(b)
	if e != api.OK || !outline.Same(o, want) || outline.Check(o) != api.OK {
		t.Errorf("Decode of %s: %s %d, want %s", short(b), short(o), e, short(want))
	}
}

// refuses asks for an error, and nothing beside it.
func refuses(t *testing.T, b []byte, want api.Errno) {
	t.Helper()
	if o, e := simple.Decode(b); e != want || len(o) != 0 {
		t.Errorf("Decode of %s: %s %d, want %d", short(b), short(o), e, want)
	}
}

// asIsPlain asks that bytes are decoded, or refused, as by the plain reckoning, and tells how.
func asIsPlain(t *testing.T, b []byte) api.Errno {
	t.Helper()
	o, e := decodePlainly(b)
	if e == api.OK {
		decodesTo(t, b, o)
	} else {
		refuses(t, b, e)
	}
	return e
}

// encodesTo asks for bytes, and that they are decoded again, whatever follows.
func encodesTo(t *testing.T, o [][]api.Point, want []byte) {
	t.Helper()
	b, e := simple.Encode(o)
	if e != api.OK || !bytes.Equal(b, want) {
		t.Errorf("Encode of %s: %s %d, want %s", short(o), short(b), e, short(want))
	}
	decodesTo(t, b, o)
	if len(b) > 0 {
		decodesTo(t, append(b, 0xFF, 0, 1, 2, 3, 4, 5, 6, 7, 8), o)
	}
}

func encodesNot(t *testing.T, o [][]api.Point, want api.Errno) {
	t.Helper()
	if b, e := simple.Encode(o); e != want || len(b) != 0 {
		t.Errorf("Encode of %s: %s %d, want %d", short(o), short(b), e, want)
	}
}

// row is a contour of n points at one place.
func row(n int, p api.Point) []api.Point { return slices.Repeat(list(p), n) }

// single is n contours of one point each.
func single(n int) [][]api.Point {
	var o [][]api.Point
	for i := range n {
		o = append(o, list(on(i, -i)))
	}
	return o
}

// samples is outlines that have contours, and are encoded.
func samples() map[string][][]api.Point {
	return map[string][][]api.Point{
		"a triangle":   {{on(0, 0), on(100, 0), on(0, 100)}},
		"one point":    {{on(0, 0)}},
		"one quad":     {{quad(-1, 1)}},
		"all steps":    {{on(1, -1), quad(256, -256), on(256, -512), quad(512, -512), on(512, -512)}, {quad(-32256, -32768), on(-1, -1), on(32766, -1), on(-2, -256)}},
		"one place":    {row(1000, quad(-300, 300))},
		"contours":     single(256),
		"points":       {row(4000, quad(3, 4)), row(96, on(-3, -4))},
		"a square":     {{quad(0, 0), quad(10, 0), quad(10, 10), quad(0, 10)}, {on(2, 2), on(2, 8), on(8, 8), on(8, 2)}},
		"corners":      {{on(-32768, 32767)}, {on(-1, 0)}, {on(32766, -32768)}},
		"a long flag":  {row(258, on(0, 0)), row(600, quad(0, 0)), list(on(7, 7))},
		"across rings": {{on(5, 5), on(10, 10)}, {on(15, 15)}, {on(20, 20), on(25, 25), quad(30, 30)}},
	}
}

func TestExampleOfSimple(t *testing.T) {
	o := samples()["a triangle"]
	want := append(twos(1, 0, 0, 100, 100, 2, 0), 0x31, 0x33, 0x27, 100, 100, 100)
	encodesTo(t, o, want)
	// The same with steps that are longer than they must be.
	decodesTo(t, raw(list(2), 0, append(list[byte](1, 1, 1), twos(0, 100, -100, 0, 0, 100)...)...), o)
	decodesTo(t, raw(list(2), 5, 0x31, 0x33, 0x27, 100, 100, 100), o)
}

func TestKind(t *testing.T) {
	for _, c := range []struct {
		b    []byte
		want int
	}{
		{nil, 0}, {list[byte](), 0},
		{list[byte](0), 1}, {list[byte](127), 1}, {list[byte](128), 1}, {list[byte](255), 1},
		{list[byte](0, 0), 1}, {list[byte](0, 255), 1}, {list[byte](127, 255), 1},
		{list[byte](128, 0), 2}, {list[byte](255, 255), 2}, {list[byte](255, 0), 2},
		{list[byte](0, 1, 255, 255), 1}, {list[byte](255, 255, 0, 0), 2},
		{list[byte](255, 255, 0)[:1], 1}, {list[byte](255, 255)[:0], 0},
		{append(twos(-1), make([]byte, 1<<20)...), 2}, {make([]byte, 1<<20), 1},
	} {
		if kind := simple.Kind(c.b); kind != c.want {
			t.Errorf("%s: %d, want %d", short(c.b), kind, c.want)
		}
	}
	for name, o := range samples() {
		if b, _ := simple.Encode(o); simple.Kind(b) != 1 {
			t.Error(name)
		}
	}
}

func TestNoContours(t *testing.T) {
	decodesTo(t, nil, nil)
	decodesTo(t, list[byte](), nil)
	decodesTo(t, raw(nil, 0), nil)
	decodesTo(t, raw(nil, 0, 1, 2, 3), nil)
	decodesTo(t, raw(nil, 3), nil)
	encodesTo(t, nil, nil)
	encodesTo(t, [][]api.Point{}, nil)
	for _, instructions := range []int{0, 3} {
		b := raw(nil, instructions)
		for n := 1; n < len(b); n++ {
			refuses(t, b[:n], api.ErrGlyf)
		}
	}
}

// TestDecodeInFull tells what becomes of flags and steps, point by point.
func TestDecodeInFull(t *testing.T) {
	const big = 32767
	for name, c := range map[string]struct {
		b    []byte
		want [][]api.Point
	}{
		"on it":                  {raw(list(0), 0, 0x31), [][]api.Point{{on(0, 0)}}},
		"off it":                 {raw(list(0), 0, 0x30), [][]api.Point{{quad(0, 0)}}},
		"bits 6 and 7":           {raw(list(0), 0, 0xF1), [][]api.Point{{on(0, 0)}}},
		"X of 1 byte":            {raw(list(0), 0, 0x33, 255), [][]api.Point{{on(255, 0)}}},
		"X of 1 byte, below":     {raw(list(0), 0, 0x23, 255), [][]api.Point{{on(-255, 0)}}},
		"X of 1 byte, 0":         {raw(list(0), 0, 0x23, 0), [][]api.Point{{on(0, 0)}}},
		"X of 2 bytes":           {raw(list(0), 0, 0x21, 0x12, 0x34), [][]api.Point{{on(0x1234, 0)}}},
		"X of 2 bytes, below":    {raw(list(0), 0, 0x21, 0xFF, 0xFE), [][]api.Point{{on(-2, 0)}}},
		"Y of 1 byte":            {raw(list(0), 0, 0x35, 255), [][]api.Point{{on(0, 255)}}},
		"Y of 1 byte, below":     {raw(list(0), 0, 0x15, 255), [][]api.Point{{on(0, -255)}}},
		"Y of 2 bytes":           {raw(list(0), 0, 0x11, 0x12, 0x34), [][]api.Point{{on(0, 0x1234)}}},
		"Y of 2 bytes, below":    {raw(list(0), 0, 0x11, 0x80, 0), [][]api.Point{{on(0, -32768)}}},
		"X ahead of Y":           {raw(list(1), 0, 0x37, 0x04, 1, 0, 2, 3, 4), [][]api.Point{{on(1, 3), quad(3, -1)}}},
		"a flag once more":       {raw(list(1), 0, 0x3F, 1, 1, 2, 3, 4), [][]api.Point{{on(1, 3), on(3, 7)}}},
		"a flag no more":         {raw(list(0), 0, 0x3F, 0, 1, 3), [][]api.Point{{on(1, 3)}}},
		"flags no more":          {raw(list(1), 0, 0x3F, 0, 0x3E, 0, 1, 2, 3, 4), [][]api.Point{{on(1, 3), quad(3, 7)}}},
		"a flag across contours": {raw(list(0, 1, 3), 0, 0x38, 2, 0x31), [][]api.Point{{quad(0, 0)}, {quad(0, 0)}, {quad(0, 0), on(0, 0)}}},
		"places go on":           {raw(list(0, 2), 1, 0x33, 0x33, 0x34, 5, 6, 7), [][]api.Point{{on(5, 0)}, {on(11, 0), quad(11, 7)}}},
		"far":                    {raw(list(2), 0, append(list[byte](1, 1, 1), twos(big, -big, -big-1, -big-1, big, big+1-1)...)...), [][]api.Point{{on(big, -big-1), on(0, -1), on(-big-1, big-1)}}},
	} {
		o, e := simple.Decode(c.b)
		if e != api.OK || !outline.Same(o, c.want) {
			t.Error(name, o, e, c.want)
		}
		asIsPlain(t, c.b)
	}
}

// TestEachFlag has two points of every flag, each cut, and what follows.
func TestEachFlag(t *testing.T) {
	for f := range 256 {
		for _, g := range list(0x31, 0x07, 0x20, 0x3F, 0x00, f) {
			b := raw(list(1), 2, byte(f), byte(g), 1, 0x83, 0x7F, 0xF0, 0x11, 3, 0x21, 0x99)
			for n := range len(b) + 1 {
				asIsPlain(t, b[:n])
			}
			b = raw(list(0, 3), 0, byte(f), 1, byte(g), 1, 0x83, 0x7F, 0xF0, 0x11, 3, 0x21, 0x99, 0xFF, 0xFE, 7, 8, 9, 10)
			for n := range len(b) + 1 {
				asIsPlain(t, b[:n])
			}
		}
	}
}

// TestCuts: what is cut off is refused, but for no bytes at all; what lies in the room behind the end does not count.
func TestCuts(t *testing.T) {
	for name, o := range samples() {
		b, e := simple.Encode(o)
		if e != api.OK {
			t.Fatal(name, e)
		}
		every := 1 + len(b)/500
		for n := 1; n < len(b); n += every {
			refuses(t, b[:n], api.ErrGlyf)
		}
		refuses(t, b[:len(b)-1], api.ErrGlyf)
	}
	b := raw(list(1), 300, 0x31, 0x33, 9)
	decodesTo(t, b, [][]api.Point{{on(0, 0), on(9, 0)}})
	for n := 1; n < len(b); n++ {
		refuses(t, b[:n], api.ErrGlyf)
	}
	refuses(t, raw(list(0), 0), api.ErrGlyf)
	refuses(t, raw(list(0), 0, 0x39), api.ErrGlyf)
	refuses(t, raw(list(1), 0, 0x31), api.ErrGlyf)
}

// TestWhatIsAny: the box, the instructions, what follows.
func TestWhatIsAny(t *testing.T) {
	want := [][]api.Point{{on(0, 0), quad(9, -9)}}
	b := raw(list(1), 4, 0x31, 0x16, 9, 9, 0xAA, 0xBB)
	for at := range b {
		if (at < 2 || at >= 10) && (at < 14 || at >= 18) && at < 22 {
			continue
		}
		for x := range 256 {
			c := slices.Clone(b)
			c[at] = byte(x)
			decodesTo(t, c, want)
		}
	}
	decodesTo(t, append(b, make([]byte, 1<<20)...), want)
	for _, instructions := range list(0, 1, 255, 256, 32768, 65535) {
		b := raw(list(1), instructions, 0x31, 0x16, 9, 9)
		decodesTo(t, b, want)
		decodesTo(t, append(b, 1, 2, 3), want)
		refuses(t, b[:len(b)-1], api.ErrGlyf)
	}
}

// TestEachByte puts every other byte into every place.
func TestEachByte(t *testing.T) {
	for _, b := range [][]byte{
		raw(list(1, 3), 2, 0x31, 0x3A, 1, 0x13, 1, 2, 3, 4, 5, 6, 7, 8, 9),
		raw(list(0), 0, 0x01, 0x7F, 0xFF, 0x80, 0),
		raw(nil, 1),
	} {
		for at := range b {
			for x := range 256 {
				c := slices.Clone(b)
				c[at] = byte(x)
				asIsPlain(t, c)
			}
		}
	}
}

// TestCountOfContours: below 0, up to the limit, and beyond, where nothing else is looked at.
func TestCountOfContours(t *testing.T) {
	for _, k := range list(-1, -2, -256, -257, -32768) {
		refuses(t, twos(k), api.ErrGlyf)
		refuses(t, append(twos(k), raw(list(0), 0, 0x31)[2:]...), api.ErrGlyf)
	}
	for _, k := range list(257, 258, 512, 32767) {
		refuses(t, twos(k), api.ErrPoints)
		refuses(t, append(twos(k), raw(list(0), 0, 0x31)[2:]...), api.ErrPoints)
		refuses(t, append(twos(k), make([]byte, 100000)...), api.ErrPoints)
	}
	for _, k := range list(1, 2, 255, 256) {
		refuses(t, twos(k), api.ErrGlyf)
		var lasts []int
		for i := range k {
			lasts = append(lasts, i)
		}
		o := slices.Repeat([][]api.Point{{on(0, 0)}}, k)
		decodesTo(t, raw(lasts, 0, bytes.Repeat(list[byte](0x31), k)...), o)
		decodesTo(t, raw(lasts, 0, 0x39, byte(k-1)), o)
	}
}

// TestLastPoints: they rise, up to the limit; the first that is wrong is told.
func TestLastPoints(t *testing.T) {
	for _, c := range []struct {
		lasts []int
		want  api.Errno
	}{
		{list(4096), api.ErrPoints},
		{list(65535), api.ErrPoints},
		{list(32768), api.ErrPoints},
		{list(0, 4096), api.ErrPoints},
		{list(0, 4096, 1), api.ErrPoints},
		{list(4096, 0), api.ErrPoints},
		{list(4095, 4096), api.ErrPoints},
		{list(65535, 65535), api.ErrPoints},
		{list(0, 0, 4096), api.ErrGlyf},
		{list(5, 4, 4096), api.ErrGlyf},
		{list(1, 3, 3, 65535), api.ErrGlyf},
		{list(0, 0), api.ErrGlyf},
		{list(4095, 4095), api.ErrGlyf},
		{list(4095, 0), api.ErrGlyf},
		{list(0, 2, 1), api.ErrGlyf},
		{list(0, 2, 1, 3), api.ErrGlyf},
	} {
		refuses(t, raw(c.lasts, 0, bytes.Repeat(list[byte](0x31), 4096)...), c.want)
		refuses(t, raw(c.lasts, 0), c.want)
		refuses(t, raw(c.lasts, 0)[:10+2*len(c.lasts)], c.want)
	}
	// A number that is too great, and cut off, is not there.
	b := raw(list(3, 4096), 0)
	refuses(t, b[:14], api.ErrPoints)
	refuses(t, b[:13], api.ErrGlyf)
	refuses(t, b[:12], api.ErrGlyf)
	flags := list[byte](0x39, 255)
	decodesTo(t, raw(list(4095), 0, bytes.Repeat(flags, 16)...), [][]api.Point{row(4096, on(0, 0))})
	decodesTo(t, raw(list(0, 4094, 4095), 0, bytes.Repeat(flags, 16)...), [][]api.Point{row(1, on(0, 0)), row(4094, on(0, 0)), row(1, on(0, 0))})
}

// TestRepeatedFlags: as many as there are points, not fewer, and not more.
func TestRepeatedFlags(t *testing.T) {
	for _, n := range list(1, 2, 3, 4, 5, 6, 12, 127, 128, 254, 255, 256, 257, 258, 511, 512, 513, 600) {
		o := [][]api.Point{row(n, quad(0, 0))}
		for more := range 256 {
			b := raw(list(n-1), 0, bytes.Repeat(list[byte](0x38, byte(more)), (n+more)/(more+1))...)
			if n%(more+1) == 0 {
				decodesTo(t, b, o)
				refuses(t, b[:len(b)-1], api.ErrGlyf)
			} else {
				refuses(t, b, api.ErrGlyf)
				refuses(t, append(b, make([]byte, 5000)...), api.ErrGlyf)
			}
		}
	}
	// As long as flags can be: each says that it does not follow.
	most := raw(list(4095), 65535, bytes.Repeat(list[byte](0x08, 0), 4096)...)
	most = append(append(most, bytes.Repeat(twos(1, -1), 2048)...), bytes.Repeat(twos(-2, 2), 2048)...)
	decodesTo(t, most, [][]api.Point{slices.Repeat(list(quad(1, -2), quad(0, 0)), 2048)})
	refuses(t, most[:len(most)-1], api.ErrGlyf)
}

// TestLongest: the longest glyph that there is.
func TestLongest(t *testing.T) {
	var lasts []int
	var o [][]api.Point
	for i := range 256 {
		lasts = append(lasts, 16*i+15)
		o = append(o, slices.Repeat(list(quad(1, -2), quad(0, 0)), 8))
	}
	b := raw(lasts, 65535, bytes.Repeat(list[byte](0x48, 0), 4096)...)
	b = append(append(b, bytes.Repeat(twos(1, -1), 2048)...), bytes.Repeat(twos(-2, 2), 2048)...)
	decodesTo(t, b, o)
	decodesTo(t, append(b, 1, 2, 3), o)
	for n := len(b) - 1; n > len(b)-20; n-- {
		refuses(t, b[:n], api.ErrGlyf)
	}
}

// TestPlacesTooFar: each place is to be in range, wherever the others are.
func TestPlacesTooFar(t *testing.T) {
	for _, c := range []struct {
		steps []int
		want  api.Errno
	}{
		{list(32767, 0, 0), api.OK},
		{list(32767, 1, 0), api.ErrGlyf},
		{list(32766, 1, 0), api.OK},
		{list(32767, 1, -1), api.ErrGlyf},
		{list(0, 0, -32768), api.OK},
		{list(0, -32768, -1), api.ErrGlyf},
		{list(-32767, -1, 32767), api.OK},
		{list(-32768, -1, 1), api.ErrGlyf},
		{list(-32768, 32767, 32767), api.OK},
		{list(32767, 32767, -32768), api.ErrGlyf},
		{list(32767, -32768, -32767), api.OK},
		{list(32767, -32768, -32768), api.ErrGlyf},
	} {
		var place int
		var xs, ys []api.Point
		for _, d := range c.steps {
			place += d
			xs, ys = append(xs, on(place, 0)), append(ys, on(0, place))
		}
		for flag, o := range map[byte][]api.Point{0x21: xs, 0x11: ys} {
			b := raw(list(2), 0, append(bytes.Repeat(list(flag), 3), twos(c.steps...)...)...)
			if c.want == api.OK {
				decodesTo(t, b, [][]api.Point{o})
			} else {
				refuses(t, b, c.want)
			}
		}
	}
	// By a byte alone.
	refuses(t, raw(list(1), 0, 0x21, 0x33, 0x7F, 0xFF, 1), api.ErrGlyf)
	refuses(t, raw(list(1), 0, 0x11, 0x15, 0x80, 0, 1), api.ErrGlyf)
}

// TestEncodeInFull tells bytes.
func TestEncodeInFull(t *testing.T) {
	for name, c := range map[string]struct {
		o    [][]api.Point
		want []byte
	}{
		"one point":       {[][]api.Point{{on(0, 0)}}, append(twos(1, 0, 0, 0, 0, 0, 0), 0x31)},
		"one quad":        {[][]api.Point{{quad(-1, 1)}}, append(twos(1, -1, 1, -1, 1, 0, 0), 0x26, 1, 1)},
		"1 byte at most":  {[][]api.Point{{on(255, -255), on(0, 0)}}, append(twos(1, 0, -255, 255, 0, 1, 0), 0x17, 0x27, 255, 255, 255, 255)},
		"2 bytes":         {[][]api.Point{{on(256, -256)}}, append(append(twos(1, 256, -256, 256, -256, 0, 0), 0x01), twos(256, -256)...)},
		"X of 2, Y of 1":  {[][]api.Point{{on(-256, 7)}}, append(append(twos(1, -256, 7, -256, 7, 0, 0), 0x25), 0xFF, 0x00, 7)},
		"most":            {[][]api.Point{{on(32767, -32768)}}, append(append(twos(1, 32767, -32768, 32767, -32768, 0, 0), 0x01), twos(32767, -32768)...)},
		"a flag twice":    {[][]api.Point{{on(1, 0), on(2, 0), on(3, 0), quad(4, 0)}}, append(twos(1, 1, 0, 4, 0, 3, 0), 0x3B, 2, 0x32, 1, 1, 1, 1)},
		"across contours": {[][]api.Point{{on(1, 0)}, {on(2, 0)}, {on(2, 5)}}, append(twos(3, 1, 0, 2, 5, 0, 1, 2, 0), 0x3B, 1, 0x35, 1, 1, 5)},
		"not behind":      {[][]api.Point{{on(1, 0), quad(2, 0), on(3, 0)}}, append(twos(1, 1, 0, 3, 0, 2, 0), 0x33, 0x32, 0x33, 1, 1, 1)},
		"the hull":        {[][]api.Point{{on(-5, 9), quad(7, -8)}, {on(1, 1)}}, append(twos(2, -5, -8, 7, 9, 1, 2, 0), 0x27, 0x16, 0x27, 5, 12, 6, 9, 17, 9)},
	} {
		b, e := simple.Encode(c.o)
		if e != api.OK || !bytes.Equal(b, c.want) {
			t.Error(name, b, e, c.want)
		}
		encodesTo(t, c.o, encodePlainly(c.o))
	}
	for _, o := range samples() {
		encodesTo(t, o, encodePlainly(o))
	}
}

// TestEachStep goes over the steps at which the form changes, along both axes.
func TestEachStep(t *testing.T) {
	l := list(0, 1, 2, 127, 128, 254, 255, 256, 257, 511, 512, 32766, 32767)
	for _, x := range slices.Clone(l) {
		l = append(l, -x)
	}
	for _, x := range append(l, -32768) {
		for _, y := range append(l, -32768) {
			o := [][]api.Point{{on(x, y)}, {quad(0, 0), on(0, 0)}}
			if x > -32768 && y > -32768 {
				encodesTo(t, o, encodePlainly(o))
			} else {
				encodesNot(t, o, api.ErrArg) // the step back is too long
			}
			encodesTo(t, o[:1], encodePlainly(o[:1]))
		}
	}
}

// TestLongRuns: at most 255 more flags at once.
func TestLongRuns(t *testing.T) {
	for n := 1; n <= 4096; n++ {
		if n > 800 && n%256 > 3 && n%97 > 0 {
			continue
		}
		o := [][]api.Point{row(n, on(0, 0))}
		var want []byte
		for rest := n; rest > 0; rest -= 256 {
			if rest == 1 {
				want = append(want, 0x31)
			} else {
				want = append(want, 0x39, byte(min(rest, 256)-1))
			}
		}
		encodesTo(t, o, append(twos(1, 0, 0, 0, 0, n-1, 0), want...))
	}
}

// TestEncodeRefusesOutlines: what Check says comes first.
func TestEncodeRefusesOutlines(t *testing.T) {
	half := api.Point{X: 1 << 15, Kind: api.PointOn}
	for name, o := range map[string][][]api.Point{
		"contours":          single(257),
		"contours, empty":   make([][]api.Point, 257),
		"points":            {row(4097, on(0, 0))},
		"points, not whole": {row(4097, half)},
		"points of no kind": {make([]api.Point, 4097)},
	} {
		if e := outline.Check(o); e != api.ErrPoints {
			t.Error(name, e)
		}
		encodesNot(t, o, api.ErrPoints)
	}
	for name, o := range map[string][][]api.Point{
		"empty":               {{}},
		"empty, not whole":    {{half}, {}},
		"of no kind":          {{on(0, 0), {}}},
		"one cubic":           {{on(0, 0), {Kind: api.PointCubic}}},
		"too far":             {{on(1<<15, 0), on(1<<16, 0)}},
		"one cubic, no whole": {{half, {Kind: api.PointCubic}}},
	} {
		if e := outline.Check(o); e != api.ErrOutline {
			t.Error(name, e)
		}
		encodesNot(t, o, api.ErrOutline)
	}
}

func TestEncodeRefusesPoints(t *testing.T) {
	cubic := api.Point{X: 1 << 16, Kind: api.PointCubic}
	encodesNot(t, [][]api.Point{{on(0, 0), cubic, cubic}}, api.ErrArg)
	encodesNot(t, [][]api.Point{{on(0, 0)}, {cubic, on(0, 0), cubic}}, api.ErrArg)
	for _, x := range list(1, -1, 1<<15, -1<<15, 1<<16-1, 1<<16+1, 1-1<<16, api.MaxFixed-1, 1-api.MaxFixed, api.MaxFixed, 1<<31) {
		for i := range 4 {
			o := [][]api.Point{{on(0, 0), quad(0, 0)}, {quad(0, 0), on(0, 0)}}
			o[i/2][i%2].X = x
			encodesNot(t, o, api.ErrArg)
			o[i/2][i%2].X, o[i/2][i%2].Y = 0, x
			encodesNot(t, o, api.ErrArg)
		}
	}
	for _, p := range list(on(1<<15, 0), on(0, 1<<15)) {
		encodesNot(t, [][]api.Point{{p}}, api.ErrArg)
		encodesNot(t, [][]api.Point{{on(1, 1), p}}, api.ErrArg)
	}
}

// TestEncodeRefusesSteps: from each point to the next, contours aside; the last one has none behind it.
func TestEncodeRefusesSteps(t *testing.T) {
	for _, c := range []struct {
		places []int
		want   api.Errno
	}{
		{list(-1, 32766), api.OK},
		{list(-1, 32767), api.ErrArg},
		{list(-2, 32766), api.ErrArg},
		{list(0, 32767), api.OK},
		{list(0, -32768), api.OK},
		{list(1, -32767), api.OK},
		{list(1, -32768), api.ErrArg},
		{list(2, -32767), api.ErrArg},
		{list(32767, -1), api.OK},
		{list(32767, -2), api.ErrArg},
		{list(-32768, -1), api.OK},
		{list(-32768, 0), api.ErrArg},
		{list(-32768, 32767), api.ErrArg},
		{list(32767, -32768), api.ErrArg},
		{list(-32768, -1, 32766), api.OK},
		{list(-32768, -1, 32767), api.ErrArg},
		{list(32767, -1, -32768), api.OK},
	} {
		var xs, ys []api.Point
		var apart [][]api.Point
		for _, x := range c.places {
			xs, ys, apart = append(xs, on(x, 0)), append(ys, quad(0, x)), append(apart, list(on(x, x)))
		}
		for _, o := range [][][]api.Point{{xs}, {ys}, apart} {
			if c.want == api.OK {
				encodesTo(t, o, encodePlainly(o))
			} else {
				encodesNot(t, o, c.want)
			}
		}
	}
}

// spoil changes all points, spare room and all.
func spoil(o [][]api.Point) {
	for _, c := range o[:cap(o)] {
		c = c[:cap(c)]
		for i := range c {
			c[i] = api.Point{X: 99, Y: 99, Kind: 99}
		}
	}
	clear(o[:cap(o)])
}

func copyOf(o [][]api.Point) [][]api.Point {
	var l [][]api.Point
	for _, c := range o {
		l = append(l, slices.Clone(c))
	}
	return l
}

// TestMemory changes what was answered, its spare room too, and what was handed in.
func TestMemory(t *testing.T) {
	want := [][]api.Point{{on(1, 2), quad(3, 4), on(5, 6)}, {quad(7, 7)}, {on(8, 8), on(9, 9)}}
	b, _ := simple.Encode(want)
	room := append(slices.Clone(b), 1, 2, 3, 4, 5)
	was := slices.Clone(room)
	o, _ := simple.Decode(room[:len(b)])
	other, _ := simple.Decode(room[:len(b)])
	for i := range o {
		changed := copyOf(o)
		o[i][0].X++
		changed[i][0].X++
		if _ = append(o[i], on(99, 99)); !outline.Same(o, changed) {
			t.Error("contours share", o)
		}
	}
	spoil(o)
	if !bytes.Equal(room, was) || !outline.Same(other, want) {
		t.Error("shares", room, other)
	}
	clear(room)
	if !outline.Same(other, want) {
		t.Error("keeps", other)
	}
	for n := range was {
		simple.Kind(was[:n])
		simple.Decode(was[:n])
	}
	if !bytes.Equal(was[:len(b)], b) || !bytes.Equal(was[len(b):], list[byte](1, 2, 3, 4, 5)) {
		t.Error("changes what is handed in", was)
	}
	roomy := copyOf(want)
	roomy[1] = append(roomy[1], on(40, 40), quad(50, 50))
	roomy = append(roomy, list(on(60, 60)))
	handed := append([][]api.Point{}, roomy...)[:3]
	handed[1] = roomy[1][:1]
	first, _ := simple.Encode(handed)
	second, _ := simple.Encode(handed)
	clear(first[:cap(first)])
	if !bytes.Equal(second, b) || !outline.Same(handed, want) || roomy[1][1] != on(40, 40) || roomy[1][2] != quad(50, 50) {
		t.Error("changes what is handed in", handed, roomy)
	}
	spoil(handed[:3:3])
	if !bytes.Equal(second, b) {
		t.Error("keeps", second)
	}
}

// drawnOutline has places that are near, or far, or at one place.
func drawnOutline(draw *rand.Rand) [][]api.Point {
	var o [][]api.Point
	far := list(0, 1, 3, 300, 16383, 32767)[draw.Intn(6)]
	for range 1 + draw.Intn(6) {
		var c []api.Point
		for range 1 + draw.Intn(1+draw.Intn(30)) {
			p := on(draw.Intn(2*far+1)-far, draw.Intn(2*far+1)-far)
			p.Kind -= draw.Intn(2) * (api.PointOn - api.PointQuad)
			c = append(c, p)
		}
		o = append(o, c)
	}
	return o
}

// stepsFit tells plainly whether all steps are in range.
func stepsFit(o [][]api.Point) bool {
	ahead := api.Point{}
	for _, p := range slices.Concat(o...) {
		for _, d := range list((p.X-ahead.X)>>16, (p.Y-ahead.Y)>>16) {
			if d != int(int16(d)) {
				return false
			}
		}
		ahead = p
	}
	return true
}

func TestDrawnOutlines(t *testing.T) {
	draw := rand.New(rand.NewSource(11))
	count := map[bool]int{}
	for range 10000 {
		o := drawnOutline(draw)
		fit := stepsFit(o)
		count[fit]++
		if fit {
			encodesTo(t, o, encodePlainly(o))
		} else {
			encodesNot(t, o, api.ErrArg)
		}
	}
	if count[true] < 1000 || count[false] < 500 {
		t.Error("not of all kinds:", count)
	}
}

// TestDrawnBytes: whatever the bytes, they are decoded, or refused.
func TestDrawnBytes(t *testing.T) {
	draw := rand.New(rand.NewSource(12))
	count := map[api.Errno]int{}
	for range 40000 {
		b, e := simple.Encode(drawnOutline(draw))
		if e != api.OK {
			continue
		}
		for range draw.Intn(4) {
			b[draw.Intn(len(b))] ^= byte(1 << draw.Intn(8))
		}
		if draw.Intn(4) == 0 {
			at := 10 + draw.Intn(len(b)-10)
			b = slices.Insert(b, at, byte(draw.Intn(256)))
		}
		if draw.Intn(4) == 0 {
			b = b[:draw.Intn(len(b)+1)]
		}
		count[asIsPlain(t, b)]++
	}
	if count[api.OK] < 1000 || count[api.ErrGlyf] < 1000 || count[api.ErrPoints] < 500 {
		t.Error("not of all kinds:", count)
	}
	for range 40000 {
		b := make([]byte, draw.Intn(60))
		draw.Read(b)
		if len(b) > 10 {
			copy(b, twos(draw.Intn(3)))
			for i := 10; i+1 < min(len(b), 18); i += 2 {
				b[i] = 0
				b[i+1] %= 8
			}
		}
		asIsPlain(t, b)
	}
}

// TestAllArguments: calls end at what no font has.
func TestAllArguments(t *testing.T) {
	for _, x := range list(math.MinInt, math.MaxInt, -1<<40, 1<<40) {
		for _, p := range list(api.Point{X: x, Kind: api.PointOn}, api.Point{Y: x, Kind: api.PointQuad}, api.Point{Kind: x}) {
			encodesNot(t, [][]api.Point{{p}}, api.ErrOutline)
			encodesNot(t, [][]api.Point{{on(1, 1), p}}, api.ErrOutline)
		}
	}
	encodesNot(t, make([][]api.Point, 1<<20), api.ErrPoints)
	refuses(t, bytes.Repeat(list[byte](0xFF), 1<<21), api.ErrGlyf)
	refuses(t, bytes.Repeat(list[byte](0x7F), 1<<21), api.ErrPoints)
	decodesTo(t, make([]byte, 1<<21), nil)
}
