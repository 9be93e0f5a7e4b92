package index_test

import (
	"bytes"
	"math"
	"math/rand"
	"slices"
	"strings"
	"testing"

	"serif/api"
	"serif/index"
)

// number is a number of that many bytes.
func number(x, width int) []byte {
	b := make([]byte, width)
	for i := range b {
		b[width-1-i] = byte(x)
		x >>= 8
	}
	return b
}

// raw is an INDEX of these offsets, whether they may be or not, and data.
func raw(width int, offsets []int, data string) []byte {
	b := append(number(len(offsets)-1, 2), byte(width))
	for _, x := range offsets {
		b = append(b, number(x, width)...)
	}
	return append(b, data...)
}

// wide is an INDEX of lists whose offsets have that many bytes.
func wide(width int, l [][]byte) []byte {
	offsets := []int{1}
	for _, x := range l {
		offsets = append(offsets, offsets[len(offsets)-1]+len(x))
	}
	return raw(width, offsets, string(slices.Concat(l...)))
}

// putBytes is the INDEX that Put answers, by hand.
func putBytes(l [][]byte) []byte {
	last := 1 + len(slices.Concat(l...))
	switch {
	case len(l) == 0:
		return []byte{0, 0}
	case last < 256:
		return wide(1, l)
	case last < 65536:
		return wide(2, l)
	}
	return wide(3, l)
}

// texts is lists of bytes.
func texts(l ...string) [][]byte {
	var all [][]byte
	for _, x := range l {
		all = append(all, []byte(x))
	}
	return all
}

// sized is lists of so many bytes each; neighbours differ.
func sized(sizes ...int) [][]byte {
	var l [][]byte
	for i, n := range sizes {
		l = append(l, bytes.Repeat([]byte{byte(i), byte(i>>8 + 7), 3}, n/3+1)[:n])
	}
	return l
}

// row is n lists of up to 3 bytes.
func row(n int) [][]byte {
	var sizes []int
	for i := range n {
		sizes = append(sizes, i*i%4)
	}
	return sized(sizes...)
}

// samples is lists that may be, of few bytes.
func samples() [][][]byte {
	return [][][]byte{
		nil, texts(""), texts("a"), texts("ab", ""), texts("", "", ""), texts("", "ab", "", "cde", "f", ""),
		texts("\x00\x01\x02", "\xFF\xFE", "\x00"), row(20), sized(100, 153), sized(2, 0, 300),
	}
}

// beyond is numbers of no list of n.
func beyond(n int) []int {
	return []int{-1, n, n + 1, -n - 1, n + 1<<16, n + 1<<32, -1 << 32, math.MinInt, math.MaxInt}
}

func same(a, b [][]byte) bool { return slices.EqualFunc(a, b, bytes.Equal) }

// are asks that an INDEX has these lists, and so many bytes, in all that is told of it.
func are(t *testing.T, x *index.Index, l [][]byte, size int) {
	t.Helper()
	if x.Len() != len(l) || x.Size() != size {
		t.Errorf("Len %d, Size %d, want %d, %d", x.Len(), x.Size(), len(l), size)
	}
	for i, want := range l {
		if have, e := x.At(i); e != api.OK || !bytes.Equal(have, want) {
			t.Errorf("At(%d): %v %d, want %v", i, have, e, want)
		}
	}
	for _, i := range beyond(len(l)) {
		if have, e := x.At(i); len(have) != 0 || e != api.ErrNone {
			t.Errorf("At(%d) of %d: %v %d", i, len(l), have, e)
		}
	}
	next := 0
	for i, have := range x.All() {
		if i != next || i >= len(l) || !bytes.Equal(have, l[i]) {
			t.Fatalf("All of %d: %d %v", len(l), i, have)
		}
		next++
	}
	if next != len(l) {
		t.Errorf("All of %d stops at %d", len(l), next)
	}
}

// loads asks that bytes begin with an INDEX of these lists, of so many bytes.
func loads(t *testing.T, b []byte, l [][]byte, size int) {
	t.Helper()
	x, e := index.Load(b)
	if e != api.OK || x == nil {
		t.Fatalf("Load of %v: %v %d", b[:min(len(b), 100)], x, e)
	}
	are(t, x, l, size)
}

func loadsNot(t *testing.T, b []byte) {
	t.Helper()
	if x, e := index.Load(b); x != nil || e != api.ErrIndex {
		t.Errorf("Load of %v: %v %d", b[:min(len(b), 100)], x, e)
	}
}

// puts asks for the bytes of lists, and that they are loaded again, whatever follows.
func puts(t *testing.T, l [][]byte) {
	t.Helper()
	b, e := index.Put(l)
	if e != api.OK || !bytes.Equal(b, putBytes(l)) {
		t.Fatalf("Put of %d lists: %d bytes %d", len(l), len(b), e)
	}
	loads(t, b, l, len(b))
	loads(t, append(slices.Clone(b), 0xFF, 1, 0, 0, 9), l, len(b))
}

func putsNot(t *testing.T, l [][]byte) {
	t.Helper()
	if b, e := index.Put(l); len(b) != 0 || e != api.ErrLong {
		t.Errorf("Put of %d lists: %d bytes %d, want %d", len(l), len(b), e, api.ErrLong)
	}
}

// plainly is the lists of an INDEX as the chapter has them, and how many bytes it has, read byte by byte.
func plainly(b []byte) ([][]byte, int, bool) {
	if len(b) < 2 {
		return nil, 0, false
	}
	n := int(b[0])<<8 | int(b[1])
	if n == 0 {
		return nil, 2, true
	}
	if len(b) < 3 || b[2] < 1 || b[2] > 4 || len(b) < 3+(n+1)*int(b[2]) {
		return nil, 0, false
	}
	width := int(b[2])
	base := 3 + (n+1)*width - 1
	offset := func(i int) int {
		x := 0
		for _, c := range b[3+i*width : 3+(i+1)*width] {
			x = 256*x + int(c)
		}
		return x
	}
	if offset(0) != 1 {
		return nil, 0, false
	}
	var l [][]byte
	for i := range n {
		if offset(i) > offset(i+1) || base+offset(i+1) > len(b) {
			return nil, 0, false
		}
		l = append(l, b[base+offset(i):base+offset(i+1)])
	}
	return l, base + offset(n), true
}

// asIsPlain asks that bytes are loaded, or refused, as by the plain reckoning, and tells which.
func asIsPlain(t *testing.T, b []byte) bool {
	t.Helper()
	l, size, may := plainly(b)
	if may {
		loads(t, b, l, size)
	} else {
		loadsNot(t, b)
	}
	return may
}

func TestExampleOfIndex(t *testing.T) {
	l := texts("ab", "")
	b, e := index.Put(l)
	if e != api.OK || !bytes.Equal(b, []byte{0, 2, 1, 1, 3, 3, 'a', 'b'}) {
		t.Error(b, e)
	}
	loads(t, b, l, 8)
}

// TestLoad tells bytes one by one.
func TestLoad(t *testing.T) {
	loads(t, []byte{0, 0}, nil, 2)
	loads(t, []byte{0, 0, 9, 9, 9}, nil, 2)
	loads(t, []byte{0, 1, 1, 1, 1}, texts(""), 5)
	loads(t, []byte{0, 1, 1, 1, 2, 'x'}, texts("x"), 6)
	loads(t, []byte{0, 1, 2, 0, 1, 0, 3, 'x', 'y'}, texts("xy"), 9)
	loads(t, []byte{0, 1, 3, 0, 0, 1, 0, 0, 3, 'x', 'y'}, texts("xy"), 11)
	loads(t, []byte{0, 1, 4, 0, 0, 0, 1, 0, 0, 0, 3, 'x', 'y'}, texts("xy"), 13)
	loads(t, []byte{0, 3, 1, 1, 1, 3, 4, 'x', 'y', 'z', 'w'}, texts("", "xy", "z"), 10)
	for _, b := range [][]byte{
		nil, {}, {0}, {1}, {0, 1}, {0, 1, 1}, {0, 1, 1, 1}, {1, 0, 1, 1, 1},
		{0, 1, 1, 1, 2}, {0, 1, 1, 1, 3, 'x'}, {0, 2, 1, 1, 3, 2, 'x', 'y'},
	} {
		loadsNot(t, b)
	}
}

// TestWidths: offsets of each number of bytes, and of others.
func TestWidths(t *testing.T) {
	for _, l := range samples()[1:] {
		for width := 1; width <= 4; width++ {
			if width == 1 && len(slices.Concat(l...)) > 254 {
				continue
			}
			b := wide(width, l)
			loads(t, b, l, len(b))
			loads(t, append(slices.Clone(b), 1, 2, 3), l, len(b))
			for less := range b {
				loadsNot(t, b[:less])
			}
			for other := range 256 {
				b[2] = byte(other)
				asIsPlain(t, b)
				if other == 0 || other > 4 {
					loadsNot(t, append(b, make([]byte, 6000)...))
				}
			}
		}
	}
	// So many bytes an offset would do, but may not be.
	for _, width := range []int{5, 8, 255} {
		loadsNot(t, wide(width, texts("ab", "c")))
	}
	loadsNot(t, append([]byte{0, 1, 0}, make([]byte, 100)...))
}

// TestWideOffsets: each byte of an offset counts.
func TestWideOffsets(t *testing.T) {
	data := strings.Repeat("abcdefg", 1<<18)
	for _, end := range []int{0x100, 0x101, 0x1234, 0xFFFF, 0x10000, 0x12345, 0x1C0000} {
		for width := 3; width <= 4; width++ {
			b := raw(width, []int{1, 2, end, end}, data)
			loads(t, b, texts(data[:1], data[1:end-1], ""), 3+4*width+end-1)
		}
	}
	for _, end := range []int{len(data) + 2, 0xFFFFFF, 0x1000001, 0x80000001, 0xFFFFFFFF} {
		if end > 0xFFFFFF {
			loadsNot(t, raw(4, []int{1, end}, data))
			loadsNot(t, raw(4, []int{1, end, end}, data))
			loadsNot(t, raw(4, []int{1, end, 2}, data))
		} else {
			loadsNot(t, raw(3, []int{1, end}, data))
		}
	}
	loads(t, raw(3, []int{1, len(data) + 1}, data), texts(data), 3+2*3+len(data))
}

// TestFirstOffset: it is 1, and no other number.
func TestFirstOffset(t *testing.T) {
	for width := 1; width <= 4; width++ {
		for _, first := range []int{0, 2, 3, 255, 1 << 8, 1<<8 + 1, 1<<16 + 1, 1<<24 + 1, 1 << 31, 1<<32 - 1} {
			if first < 1<<(8*width) {
				loadsNot(t, raw(width, []int{first, max(first, 3)}, strings.Repeat("abcd", 1000)))
				loadsNot(t, raw(width, []int{first, first, first}, strings.Repeat("abcd", 1000)))
				loadsNot(t, raw(width, []int{first, 3, 4}, strings.Repeat("abcd", 1000)))
			}
		}
	}
}

// TestOffsetsThatFall: each pair of neighbours is changed about.
func TestOffsetsThatFall(t *testing.T) {
	rising := []int{1, 3, 4, 8, 9, 12, 20}
	data := strings.Repeat("z", 40)
	for width := 1; width <= 4; width++ {
		for i := range len(rising) - 1 {
			offsets := slices.Clone(rising)
			offsets[i], offsets[i+1] = offsets[i+1], offsets[i]
			loadsNot(t, raw(width, offsets, data))
			offsets = slices.Clone(rising)
			offsets[i+1] = 0
			loadsNot(t, raw(width, offsets, data))
		}
		for i := 1; i < len(rising); i++ {
			offsets := slices.Clone(rising)
			offsets[i] = offsets[i-1]
			asIsPlain(t, raw(width, offsets, data))
			if _, e := index.Load(raw(width, offsets, data)); e != api.OK {
				t.Error("offsets that stay", offsets, e)
			}
		}
	}
	// Beyond the bytes, and back again.
	loadsNot(t, raw(1, []int{1, 200, 5}, data))
	loadsNot(t, raw(4, []int{1, 1 << 31, 5}, data))
}

// TestRoom: what lies in the room behind the end is not there.
func TestRoom(t *testing.T) {
	b := wide(2, texts("abc", "de", "fgh"))
	for n := range b {
		loadsNot(t, b[:n])
	}
	room := append(slices.Clone(b), 'x', 'y')
	x, _ := index.Load(room[:len(b)])
	if list, e := x.At(2); e != api.OK || string(list) != "fgh" {
		t.Error(list, e)
	}
}

// TestEachByte puts every other byte into every place.
func TestEachByte(t *testing.T) {
	for _, l := range samples()[1:8] {
		for width := 1; width <= 4; width++ {
			b := wide(width, l)
			for at := range b {
				for x := range 256 {
					c := slices.Clone(b)
					c[at] = byte(x)
					asIsPlain(t, c)
					asIsPlain(t, append(c, 1, 2, 3, 4, 5, 6, 7, 8))
				}
			}
		}
	}
}

func TestPut(t *testing.T) {
	for _, l := range samples() {
		puts(t, l)
	}
	puts(t, [][]byte{})
	puts(t, [][]byte{nil, {}, nil})
	for n := range 70 {
		puts(t, row(n))
	}
}

// TestWidthsOfPut: on both sides of where the last offset needs another byte.
func TestWidthsOfPut(t *testing.T) {
	for _, c := range []struct{ size, width int }{
		{0, 1}, {1, 1}, {253, 1}, {254, 1}, {255, 2}, {256, 2}, {65533, 2}, {65534, 2}, {65535, 3}, {65536, 3}, {1 << 19, 3},
	} {
		for _, l := range [][][]byte{sized(c.size), sized(0, c.size, 0), sized(c.size/2, c.size-c.size/2), append(sized(c.size), make([][]byte, 300)...)} {
			b, e := index.Put(l)
			if e != api.OK || int(b[2]) != c.width || len(b) != 3+(len(l)+1)*c.width+c.size {
				t.Error(c.size, len(l), len(b), e)
			}
			puts(t, l)
		}
	}
}

// TestMostLists: 65535, and no more.
func TestMostLists(t *testing.T) {
	for _, n := range []int{255, 256, 257, 65534, 65535} {
		puts(t, row(n))
		puts(t, make([][]byte, n))
	}
	full := append(make([][]byte, 65534), []byte("z"))
	puts(t, full)
	for _, n := range []int{65536, 65537, 1 << 17} {
		putsNot(t, row(n))
		putsNot(t, make([][]byte, n))
	}
	// The most lists, cut: their offsets alone, and less.
	b := wide(4, make([][]byte, 65535))
	loads(t, b, make([][]byte, 65535), len(b))
	loadsNot(t, b[:len(b)-1])
}

// TestMostBytes: up to MaxFile bytes, and not one more.
func TestMostBytes(t *testing.T) {
	const most = 1 << 20
	for _, n := range []int{1, 2, 300, 65535} {
		size := most - 3 - 3*(n+1)
		l := append(make([][]byte, n-1), bytes.Repeat([]byte{7}, size))
		b, e := index.Put(l)
		if e != api.OK || len(b) != most {
			t.Error(n, len(b), e)
		}
		puts(t, l)
		l[n-1] = l[n-1][:size-1]
		puts(t, l)
		l[n-1] = append(l[n-1], 7, 7)
		putsNot(t, l)
		l[n-1] = make([]byte, 1<<21)
		putsNot(t, l)
	}
	putsNot(t, slices.Repeat([][]byte{make([]byte, 16)}, 65535))
	putsNot(t, slices.Repeat([][]byte{make([]byte, 1<<20)}, 65535)) // of 2^36 bytes and more, if they are counted one by one
	putsNot(t, sized(1<<20, 0, 0))
	putsNot(t, sized(0, 0, 1<<20))
	putsNot(t, sized(1<<20-12, 1))
	putsNot(t, sized(1, 1<<20-12))
	puts(t, sized(1<<20-12, 0))
	puts(t, sized(1<<20-13, 1))
	// Where too many bytes are handed in, what comes behind them is not put either.
	putsNot(t, sized(5, 1<<20, 5))
	// What is loaded may be longer than what is put.
	b := wide(4, sized(1<<20, 1<<20))
	loads(t, b, sized(1<<20, 1<<20), len(b))
}

// TestAll is stopped at each list, begun anew, and ranged over within itself.
func TestAll(t *testing.T) {
	l := row(7)
	x, _ := index.Load(putBytes(l))
	all := x.All()
	for stop := range l {
		var got [][]byte
		for i, list := range all {
			got = append(got, list)
			if i == stop {
				break
			}
		}
		if !same(got, l[:stop+1]) {
			t.Error(stop, got)
		}
	}
	count := 0
	for i, a := range all {
		for j, b := range all {
			if i == j && bytes.Equal(a, b) {
				count++
			}
		}
	}
	if count != len(l) {
		t.Error(count)
	}
	are(t, x, l, len(putBytes(l)))
}

func TestOfANilOne(t *testing.T) {
	var x *index.Index
	if x.Len() != 0 || x.Size() != 0 {
		t.Error("Len, or Size, of a nil one")
	}
	for _, i := range append(beyond(1), 0) {
		if b, e := x.At(i); len(b) != 0 || e != api.ErrClosed {
			t.Error(i, b, e)
		}
	}
	for range x.All() {
		t.Error("All goes over something")
	}
}

// TestMemory changes what was handed in, and what was answered, its spare room too.
func TestMemory(t *testing.T) {
	want := texts("abc", "", "de", "fgh")
	size := len(putBytes(want))
	room := append(putBytes(want), "xyz"...)
	was := slices.Clone(room)
	x, _ := index.Load(room[:size])
	for i := range 4 {
		list, _ := x.At(i)
		fill(list)
	}
	for _, list := range x.All() {
		fill(list)
	}
	if !bytes.Equal(room, was) {
		t.Error("bytes are changed")
	}
	are(t, x, want, size)
	fill(room)
	are(t, x, want, size)

	var kept [][]byte
	for _, list := range x.All() {
		kept = append(kept, list)
	}
	fill(kept[0])
	if !same(kept[1:], want[1:]) {
		t.Error("lists share something", kept)
	}

	all := append([]byte("abc"), "def"...)
	handed := [][]byte{all[:1], all[1:1], all[:3], all[2:5]}
	first, _ := index.Put(handed)
	second, _ := index.Put(handed)
	fill(first)
	if string(all) != "abcdef" || !same(handed, texts("a", "", "abc", "cde")) {
		t.Error("changes what is handed in", handed)
	}
	fill(all)
	if !bytes.Equal(second, putBytes(texts("a", "", "abc", "cde"))) {
		t.Error("keeps", second)
	}
}

// fill changes bytes, and those in the room behind them.
func fill(b []byte) {
	b = b[:cap(b)]
	for i := range b {
		b[i] = 0xAA
	}
}

// TestDrawnLists draws lists, puts and loads them.
func TestDrawnLists(t *testing.T) {
	draw := rand.New(rand.NewSource(21))
	for range 3000 {
		var l [][]byte
		for range draw.Intn(30) {
			list := make([]byte, draw.Intn(1+draw.Intn(60)))
			draw.Read(list)
			l = append(l, list)
		}
		puts(t, l)
		if len(l) > 0 {
			b := wide(3+draw.Intn(2), l)
			loads(t, b, l, len(b))
		}
	}
}

// TestDrawnBytes: whatever the bytes, they are loaded, or refused.
func TestDrawnBytes(t *testing.T) {
	draw := rand.New(rand.NewSource(22))
	count := map[bool]int{}
	for range 30000 {
		b := wide(1+draw.Intn(4), row(1+draw.Intn(9)))
		for range draw.Intn(3) {
			b[draw.Intn(len(b))] = byte(draw.Intn(12))
		}
		b = b[:len(b)-draw.Intn(2)*draw.Intn(len(b))]
		b = append(b, make([]byte, draw.Intn(2)*draw.Intn(20))...)
		count[asIsPlain(t, b)]++
	}
	if count[true] < 5000 || count[false] < 5000 {
		t.Error("not of all kinds:", count)
	}
	for range 20000 {
		b := make([]byte, draw.Intn(40))
		for i := range b {
			b[i] = byte(draw.Intn(5))
		}
		asIsPlain(t, b)
	}
}
