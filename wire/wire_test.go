package wire_test

import (
	"bytes"
	"math"
	"math/rand"
	"slices"
	"testing"

	"serif/api"
	"serif/wire"
)

// stands asks for all that a reader tells of itself.
func stands(t *testing.T, r *wire.Reader, at, left int, e api.Errno) {
	t.Helper()
	if r.At() != at || r.Left() != left || r.Done() != e {
		t.Errorf("At %d, Left %d, Done %d, want %d, %d, %d", r.At(), r.Left(), r.Done(), at, left, e)
	}
}

// readsNothing asks that a bad reader reads nothing, whatever is asked for, and stays where it is.
func readsNothing(t *testing.T, r *wire.Reader, at int) {
	t.Helper()
	stands(t, r, at, 0, api.ErrShort)
	if r.U8() != 0 || r.U16() != 0 || r.I16() != 0 || r.U32() != 0 {
		t.Error("a bad reader reads a number")
	}
	if r.Tag() != "" || len(r.Take(1)) != 0 || len(r.Take(0)) != 0 || len(r.Take(-1)) != 0 {
		t.Error("a bad reader reads a text, or a list")
	}
	if r.Seek(0) || r.Seek(at) || r.Seek(-1) {
		t.Error("a bad reader moves")
	}
	s := r.Sub(0, 0)
	if s == nil {
		t.Fatal("Sub is nil")
	}
	stands(t, s, 0, 0, api.ErrShort)
	stands(t, r, at, 0, api.ErrShort)
}

func TestNumbers(t *testing.T) {
	r := wire.New([]byte{0xFE, 0xFD, 0xFC, 0xFB, 0xFA, 0xF9, 0xF8, 0xF7, 0xF6, 1, 2, 3, 4, 5, 6, 7, 8, 9})
	stands(t, r, 0, 18, api.OK)
	for _, c := range []struct {
		name  string
		read  func() int
		x, at int
	}{
		{"U8", r.U8, 0xFE, 1},
		{"U16", r.U16, 0xFDFC, 3},
		{"I16", r.I16, 0xFBFA - 1<<16, 5},
		{"U32", r.U32, 0xF9F8F7F6, 9},
		{"U8", r.U8, 1, 10},
		{"U16", r.U16, 0x0203, 12},
		{"I16", r.I16, 0x0405, 14},
		{"U32", r.U32, 0x06070809, 18},
	} {
		if x := c.read(); x != c.x {
			t.Errorf("%s: %d, want %d", c.name, x, c.x)
		}
		stands(t, r, c.at, 18-c.at, api.OK)
	}
}

func TestSigns(t *testing.T) {
	for _, c := range []struct {
		b       []byte
		with, u int
	}{
		{[]byte{0x7F, 0xFF}, 1<<15 - 1, 1<<15 - 1},
		{[]byte{0x80, 0x00}, -1 << 15, 1 << 15},
		{[]byte{0xFF, 0xFF}, -1, 1<<16 - 1},
		{[]byte{0x00, 0x00}, 0, 0},
	} {
		if x := wire.New(c.b).I16(); x != c.with {
			t.Errorf("I16 %v: %d", c.b, x)
		}
		if x := wire.New(c.b).U16(); x != c.u {
			t.Errorf("U16 %v: %d", c.b, x)
		}
	}
	if x := wire.New([]byte{0xFF, 0xFF, 0xFF, 0xFF}).U32(); x != 1<<32-1 {
		t.Error("U32", x)
	}
}

func TestTextsAndLists(t *testing.T) {
	r := wire.New([]byte("head\xFF\x00\x80Atail"))
	if s := r.Tag(); s != "head" {
		t.Errorf("%q", s)
	}
	if s := r.Tag(); s != "\xFF\x00\x80A" {
		t.Errorf("%q", s)
	}
	if b := r.Take(3); string(b) != "tai" {
		t.Errorf("%q", b)
	}
	if b := r.Take(0); len(b) != 0 {
		t.Errorf("%q", b)
	}
	stands(t, r, 11, 1, api.OK)
	if b := r.Take(1); string(b) != "l" {
		t.Errorf("%q", b)
	}
	if b := r.Take(0); len(b) != 0 {
		t.Errorf("%q", b)
	}
	stands(t, r, 12, 0, api.OK)
}

// TestTooSoon: of too few bytes none is read.
func TestTooSoon(t *testing.T) {
	asks := []struct {
		name string
		n    int
		ask  func(*wire.Reader) int
	}{
		{"U8", 1, (*wire.Reader).U8},
		{"U16", 2, (*wire.Reader).U16},
		{"I16", 2, (*wire.Reader).I16},
		{"U32", 4, (*wire.Reader).U32},
		{"Tag", 4, func(r *wire.Reader) int { return len(r.Tag()) }},
		{"Take 5", 5, func(r *wire.Reader) int { return len(r.Take(5)) }},
		{"Take -1", 5, func(r *wire.Reader) int { return len(r.Take(-1)) }},
		{"Take of the least int", 5, func(r *wire.Reader) int { return len(r.Take(math.MinInt)) }},
		{"Take of the greatest int", 5, func(r *wire.Reader) int { return len(r.Take(math.MaxInt)) }},
	}
	for _, c := range asks {
		for left := range c.n {
			r := wire.New([]byte{9, 9, 9, 9, 9, 9}[:2+left])
			r.U16()
			if x := c.ask(r); x != 0 {
				t.Errorf("%s of %d bytes: %d", c.name, left, x)
			}
			readsNothing(t, r, 2)
		}
	}
}

func TestExampleOfWire(t *testing.T) {
	r := wire.New([]byte{1, 2, 3})
	if x := r.U16(); x != 258 {
		t.Error(x)
	}
	if x := r.U16(); x != 0 {
		t.Error(x)
	}
	readsNothing(t, r, 2)
}

func TestNoBytes(t *testing.T) {
	for _, b := range [][]byte{nil, {}} {
		r := wire.New(b)
		stands(t, r, 0, 0, api.OK)
		if !r.Seek(0) || len(r.Take(0)) != 0 || r.Sub(0, 0).Done() != api.OK {
			t.Error("nothing is there, and nothing was asked for")
		}
		stands(t, r, 0, 0, api.OK)
		r.U8()
		readsNothing(t, r, 0)
	}
}

func TestSeek(t *testing.T) {
	b := []byte{10, 11, 12, 13}
	r := wire.New(b)
	for _, at := range []int{3, 0, 2, 1} {
		if !r.Seek(at) {
			t.Error("Seek", at)
		}
		stands(t, r, at, 4-at, api.OK)
		if x := r.U8(); x != 10+at {
			t.Error(at, x)
		}
	}
	if !r.Seek(4) {
		t.Error("at the end")
	}
	stands(t, r, 4, 0, api.OK)
	for _, at := range []int{5, -1, math.MaxInt, math.MinInt} {
		r := wire.New(b)
		r.U8()
		if r.Seek(at) {
			t.Error("Seek", at)
		}
		readsNothing(t, r, 1)
	}
}

func TestSub(t *testing.T) {
	b := []byte{10, 11, 12, 13, 14}
	r := wire.New(b)
	r.U16()
	for at := range 6 {
		for n := range 6 - at {
			s := r.Sub(at, n)
			stands(t, s, 0, n, api.OK)
			if all := s.Take(n); !bytes.Equal(all, b[at:at+n]) {
				t.Error(at, n, all)
			}
			stands(t, s, n, 0, api.OK)
			s.U8()
			readsNothing(t, s, n)
		}
	}
	stands(t, r, 2, 3, api.OK)
	for _, c := range [][2]int{
		{0, 6}, {1, 5}, {5, 1}, {6, 0}, {6, -1}, {-1, 0}, {-1, 3}, {2, -1}, {0, -1},
		{math.MaxInt, 1}, {1, math.MaxInt}, {math.MaxInt, math.MaxInt}, {math.MinInt, math.MinInt}, {math.MinInt, math.MaxInt}, {math.MaxInt, math.MinInt},
	} {
		s := r.Sub(c[0], c[1])
		if s == nil {
			t.Fatal("Sub is nil", c)
		}
		readsNothing(t, s, 0)
		stands(t, r, 2, 3, api.OK)
	}
}

func TestSubOfASub(t *testing.T) {
	r := wire.New([]byte{10, 11, 12, 13, 14, 15})
	s := r.Sub(1, 4)
	u := s.Sub(1, 2)
	if u.U16() != 12<<8|13 || u.Left() != 0 {
		t.Error("not the bytes in the middle")
	}
	if s.Sub(3, 2).Done() != api.ErrShort {
		t.Error("a byte behind the part is read")
	}
	if s.Seek(5) || s.Done() != api.ErrShort || r.Done() != api.OK || u.Done() != api.OK {
		t.Error("readers are not by themselves")
	}
}

func TestNilReader(t *testing.T) {
	var r *wire.Reader
	readsNothing(t, r, 0)
	if s := r.Sub(1, 1); s == nil || s.Done() != api.ErrShort {
		t.Error("a part of nil")
	}
}

// TestReadersBytesAreTheirOwn changes all that was handed in, and all that was answered.
func TestReadersBytesAreTheirOwn(t *testing.T) {
	room := []byte{1, 2, 3, 4, 5, 6, 77, 88}
	r := wire.New(room[:6])
	s := r.Sub(0, 4)
	for i := range room {
		room[i] = 99
	}
	first := r.Take(2)
	_ = append(first, 50, 51, 52, 53)
	first[0], first[1] = 60, 61
	if got := s.Take(4); !bytes.Equal(got, []byte{1, 2, 3, 4}) {
		t.Error(got)
	}
	r.Seek(0)
	if got := r.Take(6); !bytes.Equal(got, []byte{1, 2, 3, 4, 5, 6}) {
		t.Error(got)
	}
	whole := []byte{1, 2, 3, 4, 77, 88}
	r = wire.New(whole[:4])
	_ = append(r.Sub(0, 2).Take(2), 9, 9, 9)
	r.Tag()
	r.U8()
	if !bytes.Equal(whole, []byte{1, 2, 3, 4, 77, 88}) {
		t.Error("what was handed in is changed", whole)
	}
}

// wrote asks for all that a writer tells of itself.
func wrote(t *testing.T, w *wire.Writer, want ...byte) {
	t.Helper()
	if b, e := w.Done(); e != api.OK || !bytes.Equal(b, want) || w.Len() != len(want) {
		t.Errorf("%v %d, Len %d, want %v", b, e, w.Len(), want)
	}
}

// full asks that a writer is full, and takes nothing more.
func full(t *testing.T, w *wire.Writer, n int) {
	t.Helper()
	for range 2 {
		if b, e := w.Done(); e != api.ErrFull || len(b) != 0 || w.Len() != n {
			t.Errorf("%v %d, Len %d, want ErrFull, Len %d", b, e, w.Len(), n)
		}
		for _, same := range []*wire.Writer{w.U8(1), w.U16(1), w.I16(1), w.U32(1), w.Data([]byte{1}), w.Data(nil), w.Pad(1), w.Pad(2), w.Pad(3), w.Pad(0)} {
			if same != w {
				t.Error("not the writer itself")
			}
		}
	}
}

func TestWriteNumbers(t *testing.T) {
	w := wire.To(100)
	if w.U8(0x1FE) != w || w.U16(0x1FEDC) != w || w.I16(-2) != w || w.U32(0x1FEDCBA98) != w || w.Data([]byte{7, 8}) != w || w.Pad(4) != w {
		t.Error("not the writer itself")
	}
	wrote(t, w, 0xFE, 0xFE, 0xDC, 0xFF, 0xFE, 0xFE, 0xDC, 0xBA, 0x98, 7, 8, 0)
	wrote(t, wire.To(20).U8(-1).U16(-2).U32(-3), 0xFF, 0xFF, 0xFE, 0xFF, 0xFF, 0xFF, 0xFD)
	wrote(t, wire.To(20).U8(math.MinInt).U16(math.MaxInt).I16(math.MinInt).U32(math.MaxInt), 0, 0xFF, 0xFF, 0, 0, 0xFF, 0xFF, 0xFF, 0xFF)
	wrote(t, wire.To(20).I16(1<<15-1).I16(-1<<15).I16(1<<15), 0x7F, 0xFF, 0x80, 0x00, 0x80, 0x00)
}

// TestRoom: what fits to the last byte is taken; of what does not, nothing.
func TestRoom(t *testing.T) {
	for _, c := range []struct {
		name  string
		n     int
		write func(*wire.Writer) *wire.Writer
	}{
		{"U8", 1, func(w *wire.Writer) *wire.Writer { return w.U8(0) }},
		{"U16", 2, func(w *wire.Writer) *wire.Writer { return w.U16(0) }},
		{"I16", 2, func(w *wire.Writer) *wire.Writer { return w.I16(0) }},
		{"U32", 4, func(w *wire.Writer) *wire.Writer { return w.U32(0) }},
		{"Data", 5, func(w *wire.Writer) *wire.Writer { return w.Data(make([]byte, 5)) }},
		{"Pad", 6, func(w *wire.Writer) *wire.Writer { return w.Pad(7) }},
	} {
		w := c.write(wire.To(1 + c.n).U8(5))
		wrote(t, w, append([]byte{5}, make([]byte, c.n)...)...)
		wrote(t, w.Data(nil).Pad(1).Pad(0).Pad(1+c.n), append([]byte{5}, make([]byte, c.n)...)...)
		full(t, w.U8(1), 1+c.n)
		for less := range c.n {
			if w := wire.To(1 + less).U8(5); c.write(w) != w {
				t.Error(c.name, "is not the writer itself")
			} else {
				full(t, w, 1)
			}
		}
	}
}

func TestNoRoom(t *testing.T) {
	for _, room := range []int{0, -1, -7, math.MinInt} {
		wrote(t, wire.To(room))
		wrote(t, wire.To(room).Data(nil).Data([]byte{}).Pad(4).Pad(math.MaxInt).Pad(-1))
		full(t, wire.To(room).U8(1), 0)
		full(t, wire.To(room).U32(1), 0)
		full(t, wire.To(room).Data([]byte{1}), 0)
	}
	wrote(t, wire.To(math.MaxInt).U8(1), 1)
}

func TestPad(t *testing.T) {
	for n := 1; n < 9; n++ {
		for length := range 17 {
			want := bytes.Repeat([]byte{5}, length)
			w := wire.To(100).Data(want).Pad(n)
			for len(want)%n != 0 {
				want = append(want, 0)
			}
			wrote(t, w, want...)
			wrote(t, w.Pad(n), want...)
			wrote(t, w.U8(9), append(want, 9)...)
		}
	}
	for _, n := range []int{0, -1, -4, math.MinInt} {
		wrote(t, wire.To(9).U8(1).Pad(n), 1)
	}
	wrote(t, wire.To(9).U8(1).Pad(4).U8(2).Pad(2).Pad(3).U8(3).Pad(4).Pad(9), 1, 0, 0, 0, 2, 0, 3, 0, 0)
	full(t, wire.To(9).U8(1).Pad(10), 1)
	full(t, wire.To(9).U8(1).Pad(math.MaxInt), 1)
	full(t, wire.To(9).U8(1).Pad(4).U8(2).Pad(7).Pad(5), 7)
}

// TestPadsThatNoMemoryHolds: a pad of any size is taken where there is room.
func TestPadsThatNoMemoryHolds(t *testing.T) {
	w := wire.To(math.MaxInt).U8(1).Pad(1 << 60)
	if w.Len() != 1<<60 {
		t.Error(w.Len())
	}
	if w.U8(2).Pad(math.MaxInt).Len() != math.MaxInt {
		t.Error(w.Len())
	}
	if b, e := w.Done(); len(b) != 0 || e != api.ErrFull {
		t.Error(len(b), e)
	}
	full(t, w.U8(1), math.MaxInt)
}

func TestNilWriter(t *testing.T) {
	var w *wire.Writer
	for _, n := range []*wire.Writer{w.U8(1), w.U16(1), w.I16(1), w.U32(1), w.Data([]byte{1}), w.Data(nil), w.Pad(4), w.Pad(0)} {
		if n != nil {
			t.Error("not nil")
		}
	}
	if b, e := w.Done(); w.Len() != 0 || len(b) != 0 || e != api.ErrClosed {
		t.Error(w.Len(), b, e)
	}
}

// TestWritersBytesAreTheirOwn changes all that was handed in, and all that was answered.
func TestWritersBytesAreTheirOwn(t *testing.T) {
	room := []byte{1, 2, 3, 77}
	w := wire.To(20).Data(room[:3])
	if !bytes.Equal(room, []byte{1, 2, 3, 77}) {
		t.Error(room)
	}
	clear(room)
	wrote(t, w, 1, 2, 3)
	first, _ := w.Done()
	_ = append(first[:1], 9, 9, 9, 9)
	clear(first)
	w.U8(4)
	wrote(t, w, 1, 2, 3, 4)
	second, _ := w.Done()
	_ = append(second, 8)
	w.U8(5)
	clear(second)
	wrote(t, w, 1, 2, 3, 4, 5)
}

// TestWhatWasWrittenIsRead writes numbers of all sizes, and reads them again.
func TestWhatWasWrittenIsRead(t *testing.T) {
	for _, x := range []int{0, 1, 0x7F, 0x80, 0xFF, 0x7FFF, 0x8000, 0xFFFF, 0x12345678, 1<<32 - 1, 1 << 32, -1, -0x8000, math.MaxInt, math.MinInt} {
		b, e := wire.To(20).U8(x).U16(x).I16(x).U32(x).Data([]byte("text")).Pad(8).Done()
		if e != api.OK {
			t.Fatal(x, e)
		}
		r := wire.New(b)
		if r.U8() != x&0xFF || r.U16() != x&0xFFFF || r.I16() != int(int16(x)) || r.U32() != x&0xFFFFFFFF || r.Tag() != "text" {
			t.Error(x, b)
		}
		if !bytes.Equal(r.Take(3), make([]byte, 3)) || r.Left() != 0 || r.Done() != api.OK {
			t.Error(x, b)
		}
	}
}

// plainReader is what a reader answers, told byte by byte.
type plainReader struct {
	b   []byte
	at  int
	bad bool
}

func (p *plainReader) take(n int) []byte {
	if p.bad || n < 0 || p.at+n > len(p.b) {
		p.bad = true
		return nil
	}
	p.at += n
	return p.b[p.at-n : p.at]
}

func (p *plainReader) number(n int) int {
	x := 0
	for _, b := range p.take(n) {
		x = x*256 + int(b)
	}
	return x
}

func TestReaderStepByStep(t *testing.T) {
	draw := rand.New(rand.NewSource(1))
	for range 2000 {
		b := make([]byte, draw.Intn(24))
		draw.Read(b)
		r, p := wire.New(b), &plainReader{b: slices.Clone(b)}
		for range 12 {
			readerStep(t, draw.Intn(6), draw.Intn(10)-1, r, p)
			left := len(p.b) - p.at
			if p.bad {
				left = 0
			}
			if r.At() != p.at || r.Left() != left || (r.Done() == api.OK) == p.bad {
				t.Fatal(b, r.At(), r.Left(), r.Done(), p)
			}
		}
	}
}

func readerStep(t *testing.T, kind, n int, r *wire.Reader, p *plainReader) {
	t.Helper()
	have, want := 0, 0
	switch kind {
	case 0:
		have, want = r.U8(), p.number(1)
	case 1:
		have, want = r.U16(), p.number(2)
	case 2:
		have, want = r.U32(), p.number(4)
	case 3:
		if b := r.Take(n); !bytes.Equal(b, p.take(n)) {
			t.Error("Take", n, b)
		}
	case 4:
		if s := r.Tag(); s != string(p.take(4)) {
			t.Errorf("%q", s)
		}
	case 5:
		p.bad = p.bad || n < 0 || n > len(p.b)
		if !p.bad {
			p.at = n
		}
		if r.Seek(n) == p.bad {
			t.Error("Seek", n)
		}
	}
	if have != want {
		t.Error(kind, have, want)
	}
}
