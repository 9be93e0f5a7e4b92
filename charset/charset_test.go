package charset_test

import (
	"bytes"
	"math"
	"math/rand"
	"slices"
	"sync"
	"testing"

	"serif/api"
	"serif/charset"
)

func list[T any](l ...T) []T { return l }

// far is numbers far away from those that may be, some of which have lowest bytes that may be.
func far() []int {
	return list(-1, -2, -1<<16, -1<<32, 1<<32, 1<<32+1, 1<<16+1<<32, math.MinInt, math.MaxInt)
}

// few is the beginning of a long list.
func few[T any](l []T) []T { return l[:min(len(l), 60)] }

// loads asks for the numbers of n glyphs.
func loads(t *testing.T, b []byte, want []int) {
	t.Helper()
	if l, e := charset.Load(b, len(want)); e != api.OK || !slices.Equal(l, want) {
		t.Errorf("Load of %v, %d: %v %d, want %v", few(b), len(want), few(l), e, few(want))
	}
}

func loadsNot(t *testing.T, b []byte, n int, want api.Errno) {
	t.Helper()
	if l, e := charset.Load(b, n); len(l) != 0 || e != want {
		t.Errorf("Load of %v, %d: %v %d, want %d", few(b), n, few(l), e, want)
	}
}

// puts asks for the bytes of numbers, and that they are loaded again, whatever follows.
func puts(t *testing.T, l []int, format int, want []byte) {
	t.Helper()
	b, e := charset.Put(l, format)
	if e != api.OK || !bytes.Equal(b, want) {
		t.Errorf("Put of %v, %d: %v %d, want %v", few(l), format, few(b), e, few(want))
	}
	loads(t, b, l)
	loads(t, append(slices.Clone(b), 0xFF, 0, 7), l)
	if len(b) > 0 {
		loadsNot(t, b[:len(b)-1], len(l), api.ErrCharset)
	}
}

func putsNot(t *testing.T, l []int, format int) {
	t.Helper()
	if b, e := charset.Put(l, format); len(b) != 0 || e != api.ErrArg {
		t.Errorf("Put of %v, %d: %v %d, want %d", few(l), format, few(b), e, api.ErrArg)
	}
}

// selects asks for the fonts of n glyphs.
func selects(t *testing.T, b []byte, k int, want []int) {
	t.Helper()
	if l, e := charset.Select(b, len(want), k); e != api.OK || !slices.Equal(l, want) {
		t.Errorf("Select of %v, %d, %d: %v %d, want %v", few(b), len(want), k, few(l), e, few(want))
	}
}

func selectsNot(t *testing.T, b []byte, n, k int, want api.Errno) {
	t.Helper()
	if l, e := charset.Select(b, n, k); len(l) != 0 || e != want {
		t.Errorf("Select of %v, %d, %d: %v %d, want %d", few(b), n, k, few(l), e, want)
	}
}

// putsSelect asks for the bytes of a selection, and that they are selected again, whatever follows.
func putsSelect(t *testing.T, l []int, k, format int, want []byte) {
	t.Helper()
	b, e := charset.PutSelect(l, k, format)
	if e != api.OK || !bytes.Equal(b, want) {
		t.Errorf("PutSelect of %v, %d, %d: %v %d, want %v", few(l), k, format, few(b), e, few(want))
	}
	selects(t, b, k, l)
	selects(t, append(slices.Clone(b), 0xFF, 0, 7), k, l)
	if len(b) > 0 {
		selectsNot(t, b[:len(b)-1], len(l), k, api.ErrCharset)
	}
}

func putsSelectNot(t *testing.T, l []int, k, format int) {
	t.Helper()
	if b, e := charset.PutSelect(l, k, format); len(b) != 0 || e != api.ErrArg {
		t.Errorf("PutSelect of %v, %d, %d: %v %d, want %d", few(l), k, format, few(b), e, api.ErrArg)
	}
}

// two is a number of 2 bytes.
func two(x int) []byte { return list(byte(x>>8), byte(x)) }

// plainBytes is the charset of numbers, range by range: the shortest one, as its ranges go on as long as they can.
func plainBytes(l []int, format int) []byte {
	b := list(byte(format))
	most := list(0, 255, 65535)[format]
	for i := 1; i < len(l); {
		more := 0
		for i+more+1 < len(l) && more < most && l[i+more+1] == l[i]+more+1 {
			more++
		}
		b = append(b, two(l[i])...)
		switch format {
		case 1:
			b = append(b, byte(more))
		case 2:
			b = append(b, two(more)...)
		}
		i += more + 1
	}
	return b
}

// plainLoad is the numbers of n glyphs as the chapter has them, read byte by byte.
func plainLoad(b []byte, n int) ([]int, bool) {
	if len(b) == 0 || b[0] > 2 {
		return nil, false
	}
	size := 2 + int(b[0])
	l := list(0)
	for at := 1; len(l) < n; at += size {
		if at+size > len(b) {
			return nil, false
		}
		more := 0
		for _, c := range b[at+2 : at+size] {
			more = 256*more + int(c)
		}
		first := 256*int(b[at]) + int(b[at+1])
		if len(l)+more+1 > n || first+more > 65535 {
			return nil, false
		}
		for i := range more + 1 {
			l = append(l, first+i)
		}
	}
	return l, true
}

// plainSelect is the fonts of n glyphs as the chapter has them: of each glyph that of the last range that begins ahead of its end.
func plainSelect(b []byte, n, k int) ([]int, bool) {
	var l []int
	switch {
	case len(b) > n && b[0] == 0:
		for _, c := range b[1 : n+1] {
			l = append(l, int(c))
		}
	case len(b) >= 3 && b[0] == 3:
		count := 256*int(b[1]) + int(b[2])
		if count == 0 || len(b) < 5+3*count {
			return nil, false
		}
		first := func(i int) int { return 256*int(b[3+3*i]) + int(b[4+3*i]) }
		if first(0) != 0 || first(count) != n || first(count-1) >= n {
			return nil, false
		}
		for i := range count {
			if i > 0 && first(i) <= first(i-1) || int(b[5+3*i]) >= k {
				return nil, false
			}
		}
		for glyph := range n {
			i := 0
			for i+1 < count && first(i+1) <= glyph {
				i++
			}
			l = append(l, int(b[5+3*i]))
		}
	default:
		return nil, false
	}
	return l, slices.Max(l) < k
}

// plainSelectBytes is the selection in format 3 of numbers.
func plainSelectBytes(l []int) []byte {
	var b []byte
	count := 0
	for glyph, x := range l {
		if glyph == 0 || l[glyph-1] != x {
			b = append(append(b, two(glyph)...), byte(x))
			count++
		}
	}
	return slices.Concat(list[byte](3), two(count), b, two(len(l)))
}

// loadIsPlain asks that bytes are loaded, or refused, as by the plain reckoning, and tells which.
func loadIsPlain(t *testing.T, b []byte, n int) bool {
	t.Helper()
	l, may := plainLoad(b, n)
	if may {
		loads(t, b, l)
	} else {
		loadsNot(t, b, n, api.ErrCharset)
	}
	return may
}

func selectIsPlain(t *testing.T, b []byte, n, k int) bool {
	t.Helper()
	l, may := plainSelect(b, n, k)
	if may {
		selects(t, b, k, l)
	} else {
		selectsNot(t, b, n, k, api.ErrCharset)
	}
	return may
}

// samples is charsets of few glyphs.
func samples() [][]int {
	return [][]int{
		{0}, {0, 0}, {0, 1}, {0, 65535}, {0, 5, 6, 7}, {0, 1, 2, 3}, {0, 7, 6, 5}, {0, 5, 5, 5}, {0, 5, 7, 9}, {0, 5, 6, 8, 9, 10, 4},
		{0, 65534, 65535, 0, 1}, {0, 0, 1, 0}, {0, 255, 256, 257}, {0, 1, 2, 2, 3, 3, 4},
	}
}

func TestExamplesOfCharset(t *testing.T) {
	puts(t, list(0, 5, 6, 7), 1, list[byte](1, 0, 5, 2))
	putsSelect(t, list(0, 0, 1), 2, 3, list[byte](3, 0, 2, 0, 0, 0, 0, 2, 1, 0, 3))
}

// TestLoad tells bytes one by one.
func TestLoad(t *testing.T) {
	for format := range byte(3) {
		loads(t, list(format), list(0))
		loads(t, list(format, 9, 9), list(0))
		loadsNot(t, list(format), 2, api.ErrCharset)
		loadsNot(t, list(format, 1), 2, api.ErrCharset)
	}
	loads(t, list[byte](0, 1, 2, 0, 0, 0xFF, 0xFF, 1, 2), list(0, 258, 0, 65535, 258))
	loads(t, list[byte](1, 1, 2, 0, 0, 9, 2), list(0, 258, 9, 10, 11))
	loads(t, list[byte](2, 1, 2, 0, 0, 0, 9, 0, 2), list(0, 258, 9, 10, 11))
	loadsNot(t, list[byte](1, 1, 2), 2, api.ErrCharset)
	loadsNot(t, list[byte](2, 1, 2, 0), 2, api.ErrCharset)
	loadsNot(t, list[byte](0, 1, 2, 3), 3, api.ErrCharset)
	loadsNot(t, nil, 1, api.ErrCharset)
	loadsNot(t, []byte{}, 5, api.ErrCharset)
}

// TestFormats: 0, 1 and 2, and no others.
func TestFormats(t *testing.T) {
	for format := range 256 {
		b := append(list(byte(format)), make([]byte, 100)...)
		for n := 1; n < 5; n++ {
			if format > 2 {
				loadsNot(t, b, n, api.ErrCharset)
				loadsNot(t, b[:1], n, api.ErrCharset)
			} else {
				loads(t, b, make([]int, n))
			}
			if format != 0 && format != 3 {
				selectsNot(t, b, n, 256, api.ErrCharset)
				selectsNot(t, slices.Concat(b[:1], plainSelectBytes(make([]int, n))[1:]), n, 256, api.ErrCharset)
			}
		}
	}
	selects(t, make([]byte, 9), 1, make([]int, 8))
	for _, format := range append(far(), 3, 4, 5, 255, 256, 257, 258, 1<<16, 1<<16+1) {
		putsNot(t, list(0, 1), format)
		putsNot(t, list(0), format)
	}
	for _, format := range append(far(), 1, 2, 4, 5, 255, 256, 259, 1<<16, 1<<16+3, 1<<32+3) {
		putsSelectNot(t, list(0, 0), 1, format)
		putsSelectNot(t, list(0), 256, format)
	}
}

// TestCounts: 1 to 65535 glyphs, and 1 to 256 fonts.
func TestCounts(t *testing.T) {
	whole := append(list[byte](0), make([]byte, 1<<18)...)
	ranges := list[byte](2, 0, 1, 0xFF, 0xFD)
	all := make([]int, 65535)
	for i := range all {
		all[i] = i
	}
	loads(t, ranges, all)
	loads(t, whole, make([]int, 65535))
	selects(t, whole, 1, make([]int, 65535))
	selects(t, list[byte](3, 0, 1, 0, 0, 7, 0xFF, 0xFF), 8, slices.Repeat(list(7), 65535))
	for _, n := range append(far(), 0, 65536, 65537) {
		for _, b := range [][]byte{whole, ranges, nil, {9}, {3, 0, 1, 0, 0, 0, byte(n >> 8), byte(n)}} {
			loadsNot(t, b, n, api.ErrArg)
			selectsNot(t, b, n, 1, api.ErrArg)
			selectsNot(t, b, n, 0, api.ErrArg)
		}
	}
	for _, k := range append(far(), 0, 257, 258, 65536, 1<<32+1) {
		for _, b := range [][]byte{whole, nil, {9}, {3, 0, 1, 0, 0, 0, 0, 3}} {
			selectsNot(t, b, 3, k, api.ErrArg)
		}
		putsSelectNot(t, list(0, 0), k, 0)
		putsSelectNot(t, list(0, 0), k, 3)
	}
	for _, n := range list(1, 2, 3, 65534, 65535) {
		puts(t, all[:n], 0, plainBytes(all[:n], 0))
		puts(t, make([]int, n), 1, plainBytes(make([]int, n), 1))
		puts(t, make([]int, n), 2, plainBytes(make([]int, n), 2))
		putsSelect(t, make([]int, n), 1, 0, make([]byte, n+1))
		putsSelect(t, make([]int, n), 1, 3, append(list[byte](3, 0, 1, 0, 0, 0), two(n)...))
	}
	for _, n := range list(0, 65536, 65537, 1<<17) {
		for format := range 4 {
			putsNot(t, make([]int, n), format)
			putsSelectNot(t, make([]int, n), 1, format)
		}
	}
}

// TestManyAtOnce: a range says no more glyphs than there are.
func TestManyAtOnce(t *testing.T) {
	for n := 2; n < 300; n++ {
		for _, more := range list(0, n/2, n-3, n-2, n-1, n, 255, 256) {
			if more < 0 {
				continue
			}
			if more < 256 {
				if may := loadIsPlain(t, list(1, 1, 0, byte(more)), n); may != (more == n-2) {
					t.Error(n, more, may)
				}
				loadIsPlain(t, list(1, 1, 0, byte(more), 9, 0, byte(n-3-more)), n)
				loadIsPlain(t, list(1, 1, 0, byte(more), 9, 0, byte(n-3-more), 1, 1, 0), n)
			}
			if may := loadIsPlain(t, append(list[byte](2, 1, 0), two(more)...), n); may != (more == n-2) {
				t.Error(n, more, may)
			}
			loadIsPlain(t, slices.Concat(list[byte](2, 1, 0), two(more), two(7), two(n-3-more)), n)
		}
	}
	loadsNot(t, list[byte](2, 0, 0, 0xFF, 0xFF), 65535, api.ErrCharset)
	loadsNot(t, list[byte](2, 0, 0, 0xFF, 0xFE), 65535, api.ErrCharset)
	loadIsPlain(t, list[byte](2, 0, 0, 0xFF, 0xFD), 65535)
	loadsNot(t, list[byte](2, 0, 0, 0xFF, 0xFD), 65534, api.ErrCharset)
	// Ranges of one glyph each, and none left for the next one.
	loadsNot(t, append(list[byte](1, 0, 1, 0, 0, 2, 0, 0, 3, 1), 1, 1, 1), 4, api.ErrCharset)
	loads(t, append(list[byte](1, 0, 1, 0, 0, 2, 0, 0, 3, 0), 1, 1, 1), list(0, 1, 2, 3))
}

// TestMostNumber: a range says no number above 65535.
func TestMostNumber(t *testing.T) {
	for more := range 256 {
		for _, past := range list(-1, 0, 1, 2) {
			first := 65535 - more + past
			if first > 65535 {
				continue
			}
			for _, b := range [][]byte{slices.Concat(list[byte](1), two(first), list(byte(more))), slices.Concat(list[byte](2), two(first), two(more))} {
				if may := loadIsPlain(t, b, more+2); may != (past <= 0) {
					t.Error(more, past, may)
				}
			}
		}
	}
	loadsNot(t, list[byte](2, 0xFF, 0xFF, 0, 1), 3, api.ErrCharset)
	loads(t, list[byte](2, 0xFF, 0xFE, 0, 1), list(0, 65534, 65535))
	loadsNot(t, list[byte](2, 0, 3, 0xFF, 0xFD), 65535, api.ErrCharset) // 3 to 65536
	l, _ := plainLoad(list[byte](2, 0, 2, 0xFF, 0xFD), 65535)
	loads(t, list[byte](2, 0, 2, 0xFF, 0xFD), l) // 2 to 65535
}

// TestPut: the samples in all formats; each cut of them is refused.
func TestPut(t *testing.T) {
	for _, l := range samples() {
		for format := range 3 {
			b := plainBytes(l, format)
			puts(t, l, format, b)
			room := append(slices.Clone(b), 0, 0, 0, 0)
			for n := range b {
				loadsNot(t, room[:n], len(l), api.ErrCharset)
			}
		}
	}
	puts(t, list(0, 5, 6, 8, 9, 10, 4), 1, list[byte](1, 0, 5, 1, 0, 8, 2, 0, 4, 0))
	puts(t, list(0, 5, 6, 8, 9, 10, 4), 2, list[byte](2, 0, 5, 0, 1, 0, 8, 0, 2, 0, 4, 0, 0))
	puts(t, list(0, 5, 6, 8), 0, list[byte](0, 0, 5, 0, 6, 0, 8))
	puts(t, list(0, 65535, 0), 1, list[byte](1, 0xFF, 0xFF, 0, 0, 0, 0))
	// Numbers that would go on from glyph 0 are a range of their own.
	puts(t, list(0, 1, 2), 1, list[byte](1, 0, 1, 1))
}

// TestLongRanges: on both sides of 256 glyphs, and of 512.
func TestLongRanges(t *testing.T) {
	for _, n := range list(1, 2, 254, 255, 256, 257, 258, 511, 512, 513, 514, 769, 1025, 30000, 65534) {
		for _, first := range list(0, 1, 300, 65536-n) {
			if first+n > 65536 {
				continue
			}
			l := list(0)
			for i := range n {
				l = append(l, first+i)
			}
			puts(t, l, 2, slices.Concat(list[byte](2), two(first), two(n-1)))
			puts(t, l, 1, plainBytes(l, 1))
			if b, _ := charset.Put(l, 1); len(b) != 1+3*((n+255)/256) {
				t.Error(n, first, len(b))
			}
			// Another one on each side.
			if n < 65000 {
				l = append(append(list(0, 7), l[1:]...), 3, 4)
				for format := range 3 {
					puts(t, l, format, plainBytes(l, format))
				}
			}
		}
	}
}

// TestPutsNot: a first number, or any, that may not be.
func TestPutsNot(t *testing.T) {
	for format := range 3 {
		putsNot(t, nil, format)
		for _, x := range append(far(), 65536, 65537, 1<<17, -65536) {
			putsNot(t, list(x), format)
			putsNot(t, list(0, x), format)
			putsNot(t, list(0, 1, x), format)
			putsNot(t, list(0, x, 1), format)
		}
		for _, x := range list(1, 2, 65535) {
			putsNot(t, list(x), format)
			putsNot(t, list(x, 0), format)
		}
		putsNot(t, list(0, math.MaxInt, math.MinInt), format)
		putsNot(t, list(0, 65535, 65536), format)
		putsNot(t, list(0, -1, 0), format)
	}
}

// TestSelect tells bytes one by one.
func TestSelect(t *testing.T) {
	selects(t, list[byte](0, 2, 0, 1), 3, list(2, 0, 1))
	selects(t, list[byte](0, 255), 256, list(255))
	selects(t, list[byte](3, 0, 1, 0, 0, 9, 0, 1), 10, list(9))
	selects(t, list[byte](3, 0, 3, 0, 0, 1, 0, 2, 0, 0, 3, 255, 0, 5), 256, list(1, 1, 0, 255, 255))
	selects(t, list[byte](3, 0, 2, 0, 0, 4, 0, 1, 4, 0, 3), 5, list(4, 4, 4)) // two ranges of the same font
	for _, b := range [][]byte{
		nil, {}, {0}, {0, 0}, {0, 0, 0}, {3}, {3, 0}, {3, 0, 0}, {3, 0, 0, 0, 3}, {3, 0, 0, 0, 0, 0, 3}, {3, 0, 0, 0, 0, 0, 0, 3},
		{3, 0, 1}, {3, 0, 1, 0, 0}, {3, 0, 1, 0, 0, 0}, {3, 0, 1, 0, 0, 0, 0}, {3, 0, 1, 0, 0, 0, 0, 2}, {3, 0, 1, 0, 0, 0, 0, 4}, {3, 0, 1, 0, 0, 0, 1, 3},
		{3, 0, 1, 0, 1, 0, 0, 3}, {3, 0, 1, 1, 0, 0, 0, 3}, {3, 0, 2, 0, 0, 0, 0, 0, 0, 0, 3}, {3, 0, 2, 0, 0, 0, 0, 3, 0, 0, 3}, {3, 0, 2, 0, 0, 0, 0, 4, 0, 0, 3},
		{3, 0, 2, 0, 0, 0, 0, 1, 0, 0, 1}, {3, 0, 3, 0, 0, 0, 0, 2, 0, 0, 1, 0, 0, 3}, {3, 0, 3, 0, 0, 0, 0, 2, 0, 0, 2, 0, 0, 3}, {3, 0, 2, 0, 0, 0, 0, 1, 0}, {3, 1, 1, 0, 0, 0, 0, 3},
	} {
		selectsNot(t, b, 3, 256, api.ErrCharset)
	}
}

// TestFonts: numbers below k, in both formats.
func TestFonts(t *testing.T) {
	for k := 1; k <= 256; k++ {
		for _, x := range list(0, k-1, k, k+1, 255) {
			if x > 255 {
				continue
			}
			for _, b := range [][]byte{
				{0, byte(x), 0, 0}, {0, 0, 0, byte(x)}, {3, 0, 1, 0, 0, byte(x), 0, 3},
				{3, 0, 2, 0, 0, byte(x), 0, 1, 0, 0, 3}, {3, 0, 2, 0, 0, 0, 0, 2, byte(x), 0, 3},
			} {
				if may := selectIsPlain(t, b, 3, k); may != (x < k) {
					t.Error(k, x, may)
				}
			}
		}
		for _, format := range list(0, 3) {
			last := list(0, k-1, k-1)
			want := slices.Concat(list[byte](0, 0), list(byte(k-1), byte(k-1)))
			if format == 3 {
				want = plainSelectBytes(last)
			}
			putsSelect(t, last, k, format, want)
			for _, x := range append(far(), k, k+1, 256, 257, 1<<32) {
				putsSelectNot(t, list(x), k, format)
				putsSelectNot(t, list(0, x, 0), k, format)
				putsSelectNot(t, list(0, 0, x), k, format)
			}
		}
	}
}

// TestPutSelect: ranges as few as can be; each cut is refused.
func TestPutSelect(t *testing.T) {
	for _, l := range [][]int{{0}, {3}, {0, 1}, {0, 0}, {3, 2, 1, 0}, {1, 1, 2, 2, 2, 1, 0, 0}, {0, 1, 0, 1, 0}, {2, 2, 2, 2, 3}, {1, 2, 3, 3}} {
		b := plainSelectBytes(l)
		putsSelect(t, l, 4, 3, b)
		for n := range b {
			selectsNot(t, b[:n], len(l), 4, api.ErrCharset)
		}
		putsSelectNot(t, l, slices.Max(l), 3)
		putsSelect(t, l, slices.Max(l)+1, 3, b)
		each := list[byte](0)
		for _, x := range l {
			each = append(each, byte(x))
		}
		putsSelect(t, l, 4, 0, each)
		for n := range each {
			selectsNot(t, each[:n], len(l), 4, api.ErrCharset)
		}
	}
	putsSelect(t, list(1, 1, 2, 2, 2, 1), 3, 3, list[byte](3, 0, 3, 0, 0, 1, 0, 2, 2, 0, 5, 1, 0, 6))
	putsSelect(t, list(1, 1, 2), 3, 0, list[byte](0, 1, 1, 2))
	putsSelectNot(t, nil, 1, 0)
	putsSelectNot(t, nil, 1, 3)
	for _, n := range list(255, 256, 257, 65534, 65535) {
		turns := make([]int, n) // a range each
		for i := range turns {
			turns[i] = i % 256
		}
		b := slices.Concat(list[byte](3), two(n))
		for i := range n {
			b = append(b, byte(i>>8), byte(i), byte(i))
		}
		putsSelect(t, turns, 256, 3, append(b, two(n)...))
	}
}

// TestEachByte puts every other byte into every place, of each format.
func TestEachByte(t *testing.T) {
	for _, l := range samples() {
		for format := range 3 {
			b := plainBytes(l, format)
			for at := range b {
				for x := range 256 {
					c := slices.Clone(b)
					c[at] = byte(x)
					loadIsPlain(t, c, len(l))
					loadIsPlain(t, append(c, 0, 1, 0, 0, 2, 0, 0, 3, 0, 0, 4, 0, 0), len(l))
				}
			}
		}
	}
	for _, l := range [][]int{{1}, {0, 0, 1, 1, 2}, {2, 1, 0}, {1, 1, 1}, {0, 1, 1, 0, 2, 2, 2}} {
		for _, b := range [][]byte{plainSelectBytes(l), append(list[byte](0), make([]byte, len(l))...)} {
			for at := range b {
				for x := range 256 {
					c := slices.Clone(b)
					c[at] = byte(x)
					selectIsPlain(t, c, len(l), 3)
					selectIsPlain(t, c, len(l), 256)
					selectIsPlain(t, append(c, 0, 1, 0, 0, byte(len(l))), len(l), 3)
				}
			}
		}
	}
}

// TestOtherCounts: bytes asked for more, and fewer, glyphs than they were put for.
func TestOtherCounts(t *testing.T) {
	for _, l := range samples() {
		for n := 1; n < 12; n++ {
			for format := range 3 {
				loadIsPlain(t, plainBytes(l, format), n)
				loadIsPlain(t, append(plainBytes(l, format), make([]byte, 40)...), n)
			}
		}
	}
	for _, l := range [][]int{{1}, {0, 0, 1, 1, 2}, {2, 1, 0}, {1, 1, 1}} {
		for n := 1; n < 12; n++ {
			if may := selectIsPlain(t, plainSelectBytes(l), n, 3); may != (n == len(l)) {
				t.Error(l, n)
			}
			selectIsPlain(t, append(list[byte](0), make([]byte, len(l))...), n, 3)
		}
	}
}

func TestFind(t *testing.T) {
	l := list(0, 7, 7, 3, 0, -5, 1<<40, 65536, math.MinInt)
	for glyph, number := range l {
		if at, e := charset.Find(l, number); e != api.OK || at != slices.Index(l, number) || at > glyph {
			t.Error(number, at, e)
		}
	}
	for _, c := range []struct{ number, want int }{{0, 0}, {7, 1}, {3, 3}, {-5, 5}, {1 << 40, 6}, {65536, 7}, {math.MinInt, 8}} {
		if at, e := charset.Find(l, c.number); e != api.OK || at != c.want {
			t.Error(c, at, e)
		}
	}
	for _, number := range list(1, 2, 8, -1, 65535, 7+1<<16, 7+1<<32, 1<<32, math.MaxInt) {
		if at, e := charset.Find(l, number); at != 0 || e != api.ErrNone {
			t.Error(number, at, e)
		}
		if at, e := charset.Find(nil, number); at != 0 || e != api.ErrNone {
			t.Error("of none:", number, at, e)
		}
	}
	if at, e := charset.Find(nil, 0); at != 0 || e != api.ErrNone {
		t.Error("of none:", at, e)
	}
	room := list(1, 2, 3)
	if at, e := charset.Find(room[:2], 3); at != 0 || e != api.ErrNone {
		t.Error("behind the end:", at, e)
	}
}

// fill changes a list, and the room behind it.
func fill[T any](l []T, x T) {
	l = l[:cap(l)]
	for i := range l {
		l[i] = x
	}
}

// TestMemory changes what was handed in, and what was answered, its spare room too.
func TestMemory(t *testing.T) {
	want := list(0, 5, 6, 7, 3, 3)
	for format := range 3 {
		b := plainBytes(want, format)
		room := append(slices.Clone(b), 1, 2, 3)
		was := slices.Clone(room)
		first, _ := charset.Load(room[:len(b)], 6)
		second, _ := charset.Load(room[:len(b)], 6)
		fill(first, 9)
		if !bytes.Equal(room, was) {
			t.Error("bytes are changed", room)
		}
		fill(room, 0xAA)
		if !slices.Equal(second, want) {
			t.Error("keeps", second)
		}
		handed := append(slices.Clone(want), 8, 9)
		put, _ := charset.Put(handed[:6], format)
		again, _ := charset.Put(handed[:6], format)
		fill(put, 0xAA)
		if !slices.Equal(handed, append(slices.Clone(want), 8, 9)) {
			t.Error("changes what is handed in", handed)
		}
		fill(handed, 1)
		if !bytes.Equal(again, b) {
			t.Error("keeps", again)
		}
		puts(t, want, format, b)
	}
	wanted := list(1, 1, 0, 2)
	for _, b := range [][]byte{plainSelectBytes(wanted), {0, 1, 1, 0, 2}} {
		room := append(slices.Clone(b), 1, 2, 3)
		was := slices.Clone(room)
		first, _ := charset.Select(room[:len(b)], 4, 3)
		second, _ := charset.Select(room[:len(b)], 4, 3)
		fill(first, 9)
		if !bytes.Equal(room, was) {
			t.Error("bytes are changed", room)
		}
		fill(room, 0xAA)
		if !slices.Equal(second, wanted) {
			t.Error("keeps", second)
		}
		handed := append(slices.Clone(wanted), 8, 9)
		put, _ := charset.PutSelect(handed[:4], 3, int(b[0]))
		again, _ := charset.PutSelect(handed[:4], 3, int(b[0]))
		fill(put, 0xAA)
		if !slices.Equal(handed, append(slices.Clone(wanted), 8, 9)) {
			t.Error("changes what is handed in", handed)
		}
		fill(handed, 1)
		if !bytes.Equal(again, b) {
			t.Error("keeps", again)
		}
	}
}

// TestAtOnce loads and puts from several sides.
func TestAtOnce(t *testing.T) {
	var all sync.WaitGroup
	for side := range 8 {
		all.Go(func() {
			for i := range 100 {
				l := list(0, side, i, i+1, side, side+1)
				for format := range 3 {
					puts(t, l, format, plainBytes(l, format))
				}
				putsSelect(t, l, 200, 3, plainSelectBytes(l))
			}
		})
	}
	all.Wait()
}

// drawnNumbers is n numbers up to most, that often go on from one another, or stay.
func drawnNumbers(draw *rand.Rand, n, most int) []int {
	l := list(0)
	for len(l) < n {
		x := l[len(l)-1]
		switch draw.Intn(4) {
		case 0:
			x = draw.Intn(most + 1)
		case 1:
		default:
			x++
		}
		l = append(l, min(x, most))
	}
	return l
}

// TestDrawnNumbers draws numbers, puts and loads them.
func TestDrawnNumbers(t *testing.T) {
	draw := rand.New(rand.NewSource(51))
	for range 3000 {
		l := drawnNumbers(draw, 1+draw.Intn(1+draw.Intn(400)), list(3, 300, 65535)[draw.Intn(3)])
		for format := range 3 {
			puts(t, l, format, plainBytes(l, format))
		}
		k := 1 + draw.Intn(256)
		l = drawnNumbers(draw, len(l), k-1)
		for i := range l {
			l[i] = l[i/(1+draw.Intn(3))]
		}
		l[0] = draw.Intn(k)
		putsSelect(t, l, k, 3, plainSelectBytes(l))
	}
}

// TestDrawnBytes: whatever the bytes, they are loaded, or refused.
func TestDrawnBytes(t *testing.T) {
	draw := rand.New(rand.NewSource(52))
	count := map[bool]int{}
	selected := map[bool]int{}
	for range 30000 {
		l := drawnNumbers(draw, 1+draw.Intn(30), list(5, 65535)[draw.Intn(2)])
		b := plainBytes(l, draw.Intn(3))
		c := plainSelectBytes(drawnNumbers(draw, len(l), 5))
		for range draw.Intn(3) {
			b[draw.Intn(len(b))] = byte(draw.Intn(12))
			c[draw.Intn(len(c))] = byte(draw.Intn(12))
		}
		b = b[:len(b)-draw.Intn(2)*draw.Intn(len(b))]
		c = c[:len(c)-draw.Intn(2)*draw.Intn(len(c))]
		count[loadIsPlain(t, append(b, make([]byte, draw.Intn(2)*draw.Intn(20))...), len(l))]++
		selected[selectIsPlain(t, append(c, make([]byte, draw.Intn(2)*draw.Intn(20))...), len(l), 5+draw.Intn(3))]++
	}
	if min(count[true], count[false], selected[true], selected[false]) < 5000 {
		t.Error("not of all kinds:", count, selected)
	}
	for range 60000 {
		b := make([]byte, draw.Intn(16))
		for i := range b {
			b[i] = byte(draw.Intn(5))
		}
		loadIsPlain(t, b, 1+draw.Intn(8))
		selectIsPlain(t, b, 1+draw.Intn(8), 1+draw.Intn(5))
	}
}
