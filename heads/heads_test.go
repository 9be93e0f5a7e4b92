package heads_test

import (
	"bytes"
	"math"
	"math/rand"
	"slices"
	"testing"

	"serif/api"
	"serif/heads"
)

// face is the two calls of a table, how bytes that are no such table are refused, and the same two calls by a plain reckoning.
type face[T comparable] struct {
	name       string
	no         api.Errno
	read       func([]byte) (T, api.Errno)
	put        func(T) ([]byte, api.Errno)
	plainRead  func([]byte) (T, bool)
	plainBytes func(x T, any byte) []byte
}

func headFace() face[api.Head] {
	return face[api.Head]{"head", api.ErrHead, heads.Head, heads.PutHead, plainHead, headBytes}
}

func glyphsFace() face[api.Glyphs] {
	return face[api.Glyphs]{"maxp", api.ErrMaxp, heads.Glyphs, heads.PutGlyphs, plainGlyphs, glyphsBytes}
}

func linesFace() face[api.Lines] {
	return face[api.Lines]{"hhea", api.ErrHhea, heads.Lines, heads.PutLines, plainLines, linesBytes}
}

// reads asks that bytes are read as x.
func (f face[T]) reads(t *testing.T, b []byte, x T) {
	t.Helper()
	if have, e := f.read(b); have != x || e != api.OK {
		t.Errorf("%s of %v: %+v %d, want %+v", f.name, b, have, e, x)
	}
}

// refuses asks that bytes are refused, nothing else being answered.
func (f face[T]) refuses(t *testing.T, b []byte) {
	t.Helper()
	var none T
	if have, e := f.read(b); have != none || e != f.no {
		t.Errorf("%s of %v: %+v %d, want %d", f.name, b, have, e, f.no)
	}
}

// asIsPlain asks that bytes are read, or refused, as by the plain reckoning, and tells which.
func (f face[T]) asIsPlain(t *testing.T, b []byte) bool {
	t.Helper()
	x, may := f.plainRead(b)
	if may {
		f.reads(t, b, x)
	} else {
		f.refuses(t, b)
	}
	return may
}

// puts asks that x is put as the plain reckoning does it, all that is any being 0, and read again.
func (f face[T]) puts(t *testing.T, x T) {
	t.Helper()
	b, e := f.put(x)
	if e != api.OK || !bytes.Equal(b, f.plainBytes(x, 0)) {
		t.Errorf("%s put of %+v: %v %d", f.name, x, b, e)
	}
	f.reads(t, b, x)
}

func (f face[T]) putsNot(t *testing.T, x T) {
	t.Helper()
	if b, e := f.put(x); len(b) != 0 || e != api.ErrArg {
		t.Errorf("%s put of %+v: %v %d, want %d", f.name, x, b, e, api.ErrArg)
	}
}

// bytesOf is numbers of 2 bytes each.
func bytesOf(numbers ...int) []byte {
	var b []byte
	for _, x := range numbers {
		b = append(b, byte(x>>8), byte(x))
	}
	return b
}

func u16(b []byte, at int) int { return int(b[at])*256 + int(b[at+1]) }

func i16(b []byte, at int) int { return (u16(b, at)+1<<15)%(1<<16) - 1<<15 }

func headBytes(h api.Head, any byte) []byte {
	b := bytesOf(1, 0)
	b = append(b, bytes.Repeat([]byte{any}, 8)...)
	b = append(b, bytesOf(0x5F0F, 0x3CF5, h.Flags, h.Units)...)
	b = append(b, bytes.Repeat([]byte{any}, 16)...)
	b = append(b, bytesOf(h.Box.X0, h.Box.Y0, h.Box.X1, h.Box.Y1, h.Style, h.Least)...)
	b = append(b, any, any)
	if h.Long {
		return append(b, bytesOf(1, 0)...)
	}
	return append(b, bytesOf(0, 0)...)
}

func plainHead(b []byte) (api.Head, bool) {
	if len(b) < 54 || u16(b, 0) != 1 || u16(b, 2) != 0 || u16(b, 12) != 0x5F0F || u16(b, 14) != 0x3CF5 {
		return api.Head{}, false
	}
	h := api.Head{Flags: u16(b, 16), Units: u16(b, 18), Style: u16(b, 44), Least: u16(b, 46), Long: u16(b, 50) == 1}
	h.Box = api.Box{X0: i16(b, 36), Y0: i16(b, 38), X1: i16(b, 40), Y1: i16(b, 42)}
	if h.Units < 16 || h.Units > 16384 || u16(b, 50) > 1 || u16(b, 52) != 0 {
		return api.Head{}, false
	}
	return h, true
}

func glyphsBytes(g api.Glyphs, any byte) []byte {
	if g.True {
		return append(bytesOf(1, 0, g.N), bytes.Repeat([]byte{any}, 26)...)
	}
	return bytesOf(0, 0x5000, g.N)
}

func plainGlyphs(b []byte) (api.Glyphs, bool) {
	if len(b) < 6 || u16(b, 4) == 0 {
		return api.Glyphs{}, false
	}
	if u16(b, 0) == 0 && u16(b, 2) == 0x5000 {
		return api.Glyphs{N: u16(b, 4)}, true
	}
	if u16(b, 0) == 1 && u16(b, 2) == 0 && len(b) >= 32 {
		return api.Glyphs{N: u16(b, 4), True: true}, true
	}
	return api.Glyphs{}, false
}

func linesBytes(l api.Lines, any byte) []byte {
	b := bytesOf(1, 0, l.Ascent, l.Descent, l.Gap)
	b = append(b, bytes.Repeat([]byte{any}, 22)...)
	return append(b, bytesOf(0, l.Metrics)...)
}

func plainLines(b []byte) (api.Lines, bool) {
	if len(b) < 36 || u16(b, 0) != 1 || u16(b, 2) != 0 || u16(b, 32) != 0 || u16(b, 34) == 0 {
		return api.Lines{}, false
	}
	return api.Lines{Ascent: i16(b, 4), Descent: i16(b, 6), Gap: i16(b, 8), Metrics: u16(b, 34)}, true
}

// Those that have a different number in each field.
func someHead() api.Head {
	return api.Head{Units: 1000, Flags: 0x8182, Box: api.Box{X0: -300, Y0: 0x0203, X1: -2, Y1: 0x0405}, Style: 0xF0F1, Least: 0x0708, Long: true}
}

func someGlyphs(isTrue bool) api.Glyphs { return api.Glyphs{N: 0x0102, True: isTrue} }

func someLines() api.Lines {
	return api.Lines{Ascent: 0x0304, Descent: -5, Gap: 0x0607, Metrics: 0xF8F9}
}

func TestExampleOfHeads(t *testing.T) {
	b, e := heads.PutGlyphs(api.Glyphs{N: 3})
	if e != api.OK || !bytes.Equal(b, []byte{0, 0, 80, 0, 0, 3}) {
		t.Error(b, e)
	}
}

// TestBytes tells each table byte by byte.
func TestBytes(t *testing.T) {
	h, e := heads.PutHead(someHead())
	if e != api.OK || !bytes.Equal(h, []byte{
		0, 1, 0, 0, 0, 0, 0, 0, 0, 0, 0, 0, 0x5F, 0x0F, 0x3C, 0xF5, 0x81, 0x82, 0x03, 0xE8,
		0, 0, 0, 0, 0, 0, 0, 0, 0, 0, 0, 0, 0, 0, 0, 0,
		0xFE, 0xD4, 2, 3, 0xFF, 0xFE, 4, 5, 0xF0, 0xF1, 7, 8, 0, 0, 0, 1, 0, 0,
	}) {
		t.Error(h, e)
	}
	g, e := heads.PutGlyphs(someGlyphs(true))
	if e != api.OK || !bytes.Equal(g, append([]byte{0, 1, 0, 0, 1, 2}, make([]byte, 26)...)) {
		t.Error(g, e)
	}
	l, e := heads.PutLines(someLines())
	if e != api.OK || !bytes.Equal(l, append(append([]byte{0, 1, 0, 0, 3, 4, 0xFF, 0xFB, 6, 7}, make([]byte, 22)...), 0, 0, 0xF8, 0xF9)) {
		t.Error(l, e)
	}
}

func TestOrdinary(t *testing.T) {
	ordinary(t, headFace(), someHead())
	ordinary(t, glyphsFace(), someGlyphs(true))
	ordinary(t, glyphsFace(), someGlyphs(false))
	ordinary(t, linesFace(), someLines())
}

// ordinary: bytes that may be any are any, and what follows is not looked at.
func ordinary[T comparable](t *testing.T, f face[T], x T) {
	f.puts(t, x)
	for _, any := range []byte{0, 1, 0x7F, 0x80, 0xFF} {
		b := f.plainBytes(x, any)
		f.reads(t, b, x)
		f.reads(t, append(b, 1, 2, 3, 4, 5), x)
		f.reads(t, append(b, make([]byte, 1<<16)...), x)
	}
}

func TestTooShort(t *testing.T) {
	tooShort(t, headFace(), someHead())
	tooShort(t, glyphsFace(), someGlyphs(true))
	tooShort(t, glyphsFace(), someGlyphs(false))
	tooShort(t, linesFace(), someLines())
}

// tooShort: what lies in the room behind the end does not count.
func tooShort[T comparable](t *testing.T, f face[T], x T) {
	f.refuses(t, nil)
	f.refuses(t, []byte{})
	b := f.plainBytes(x, 9)
	for n := range b {
		f.refuses(t, b[:n])
	}
}

func TestEachByte(t *testing.T) {
	eachByte(t, headFace(), someHead())
	eachByte(t, glyphsFace(), someGlyphs(true))
	eachByte(t, glyphsFace(), someGlyphs(false))
	eachByte(t, linesFace(), someLines())
}

// eachByte puts every other byte into every place, and holds what is read against the plain reckoning.
func eachByte[T comparable](t *testing.T, f face[T], x T) {
	b := f.plainBytes(x, 9)
	for i, was := range b {
		for c := range 256 {
			b[i] = byte(c)
			f.asIsPlain(t, b)
		}
		b[i] = was
	}
}

func TestDrawnBytes(t *testing.T) {
	drawnBytes(t, headFace(), someHead())
	drawnBytes(t, glyphsFace(), someGlyphs(true))
	drawnBytes(t, glyphsFace(), someGlyphs(false))
	drawnBytes(t, linesFace(), someLines())
}

// drawnBytes: whatever the bytes, they are read, or refused.
func drawnBytes[T comparable](t *testing.T, f face[T], x T) {
	draw := rand.New(rand.NewSource(5))
	count := map[bool]int{}
	for range 10000 {
		b := append(f.plainBytes(x, byte(draw.Intn(256))), make([]byte, draw.Intn(3))...)
		for range draw.Intn(4) {
			b[draw.Intn(len(b))] = byte(draw.Intn(256))
		}
		if draw.Intn(10) == 0 {
			b = b[:draw.Intn(len(b)+1)]
		}
		count[f.asIsPlain(t, b)]++
	}
	if count[true] < 1000 || count[false] < 1000 {
		t.Error(f.name, "not of all kinds:", count)
	}
	for range 1000 {
		b := make([]byte, draw.Intn(80))
		draw.Read(b)
		f.asIsPlain(t, b)
	}
}

// bound is a field, and what it may be.
type bound[T any] struct {
	name        string
	field       func(*T) *int
	least, most int
}

func headBounds() []bound[api.Head] {
	const low, high = -1 << 15, 1<<15 - 1
	return []bound[api.Head]{
		{"Units", func(h *api.Head) *int { return &h.Units }, 16, 16384},
		{"Flags", func(h *api.Head) *int { return &h.Flags }, 0, 65535},
		{"Style", func(h *api.Head) *int { return &h.Style }, 0, 65535},
		{"Least", func(h *api.Head) *int { return &h.Least }, 0, 65535},
		{"X0", func(h *api.Head) *int { return &h.Box.X0 }, low, high},
		{"Y0", func(h *api.Head) *int { return &h.Box.Y0 }, low, high},
		{"X1", func(h *api.Head) *int { return &h.Box.X1 }, low, high},
		{"Y1", func(h *api.Head) *int { return &h.Box.Y1 }, low, high},
	}
}

func glyphsBounds() []bound[api.Glyphs] {
	return []bound[api.Glyphs]{{"N", func(g *api.Glyphs) *int { return &g.N }, 1, 65535}}
}

func linesBounds() []bound[api.Lines] {
	const low, high = -1 << 15, 1<<15 - 1
	return []bound[api.Lines]{
		{"Ascent", func(l *api.Lines) *int { return &l.Ascent }, low, high},
		{"Descent", func(l *api.Lines) *int { return &l.Descent }, low, high},
		{"Gap", func(l *api.Lines) *int { return &l.Gap }, low, high},
		{"Metrics", func(l *api.Lines) *int { return &l.Metrics }, 1, 65535},
	}
}

func TestBounds(t *testing.T) {
	bounds(t, headFace(), headBounds(), someHead())
	bounds(t, glyphsFace(), glyphsBounds(), someGlyphs(true))
	bounds(t, glyphsFace(), glyphsBounds(), someGlyphs(false))
	bounds(t, linesFace(), linesBounds(), someLines())
}

// bounds puts each field at its bounds, and beyond them: there also so that its lowest bytes alone would fit.
func bounds[T comparable](t *testing.T, f face[T], l []bound[T], x T) {
	for _, b := range l {
		for _, in := range []int{b.least, b.least + 1, b.most - 1, b.most} {
			y := x
			*b.field(&y) = in
			f.puts(t, y)
			f.reads(t, f.plainBytes(y, 0xEE), y)
		}
		fits := *b.field(&x)
		for _, out := range []int{b.least - 1, b.most + 1, fits + 1<<16, fits - 1<<16, fits + 1<<32, fits - 1<<32, math.MinInt, math.MaxInt} {
			y := x
			*b.field(&y) = out
			f.putsNot(t, y)
		}
	}
}

// TestReadBounds: bytes can tell some numbers that may not be.
func TestReadBounds(t *testing.T) {
	for _, units := range []int{0, 1, 15, 16385, 32768, 65535} {
		h := someHead()
		h.Units = units
		headFace().refuses(t, headBytes(h, 0))
	}
	glyphsFace().refuses(t, glyphsBytes(api.Glyphs{}, 0))
	glyphsFace().refuses(t, glyphsBytes(api.Glyphs{True: true}, 0))
	l := someLines()
	l.Metrics = 0
	linesFace().refuses(t, linesBytes(l, 0))
}

func TestLong(t *testing.T) {
	for _, long := range []bool{false, true} {
		h := someHead()
		h.Long = long
		headFace().puts(t, h)
	}
	for _, x := range []int{2, 3, 256, 257, 0x8000, 0xFFFF} {
		b := headBytes(someHead(), 0)
		copy(b[50:], bytesOf(x))
		headFace().refuses(t, b)
	}
}

// TestVersionsOfGlyphs: a version of either kind, or none.
func TestVersionsOfGlyphs(t *testing.T) {
	for _, x := range []int{0, 1, 0x4FFF, 0x5001, 0xFFFF, 0x10001, 0x15000, 0x20000, 0x50000000, 0xFFFFFFFF} {
		b := append(bytesOf(x>>16, x, 3), make([]byte, 26)...)
		glyphsFace().refuses(t, b)
	}
}

// TestBoxIsAsTold: a head may be whose box is turned round, or empty.
func TestBoxIsAsTold(t *testing.T) {
	for _, b := range []api.Box{{}, {X0: 5, Y0: 7, X1: -5, Y1: -7}, {X0: 3, Y0: 3, X1: 3, Y1: 3}} {
		headFace().puts(t, api.Head{Units: 16, Box: b})
	}
}

// TestNothingFits: what may not be for several reasons is refused all the same.
func TestNothingFits(t *testing.T) {
	headFace().putsNot(t, api.Head{})
	headFace().putsNot(t, api.Head{Units: -1, Flags: -1, Box: api.Box{X0: math.MinInt}, Style: 1 << 16, Least: 1 << 40})
	glyphsFace().putsNot(t, api.Glyphs{})
	glyphsFace().putsNot(t, api.Glyphs{True: true})
	linesFace().putsNot(t, api.Lines{})
	linesFace().putsNot(t, api.Lines{Ascent: math.MaxInt, Gap: math.MinInt})
}

// TestPutIsReadAgain draws tables.
func TestPutIsReadAgain(t *testing.T) {
	draw := rand.New(rand.NewSource(6))
	for range 2000 {
		headFace().puts(t, drawn(draw, headBounds(), api.Head{Long: draw.Intn(2) == 0}))
		glyphsFace().puts(t, drawn(draw, glyphsBounds(), api.Glyphs{True: draw.Intn(2) == 0}))
		linesFace().puts(t, drawn(draw, linesBounds(), api.Lines{}))
	}
}

func drawn[T any](draw *rand.Rand, l []bound[T], x T) T {
	for _, b := range l {
		*b.field(&x) = b.least + draw.Intn(b.most-b.least+1)
	}
	return x
}

func TestMemory(t *testing.T) {
	ownMemory(t, headFace(), someHead())
	ownMemory(t, glyphsFace(), someGlyphs(true))
	ownMemory(t, glyphsFace(), someGlyphs(false))
	ownMemory(t, linesFace(), someLines())
}

// ownMemory changes what was answered, its spare room too, and asks again; what is handed in stays as it is.
func ownMemory[T comparable](t *testing.T, f face[T], x T) {
	first, _ := f.put(x)
	spare := first[:cap(first)]
	for i := range spare {
		spare[i] = 0xAA
	}
	f.puts(t, x)
	room := append(f.plainBytes(x, 9), 1, 2, 3, 4, 5, 6, 7, 8)
	was := slices.Clone(room)
	for n := range room {
		f.read(room[:n])
	}
	if !bytes.Equal(room, was) {
		t.Error(f.name, "what was handed in is changed")
	}
}
