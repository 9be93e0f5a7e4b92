package charmap_test

import (
	"bytes"
	"math"
	"math/rand"
	"slices"
	"testing"

	"serif/api"
	"serif/charmap"
)

// formats are those that there are.
func formats() []int { return []int{0, 4, 6, 12} }

// others are numbers that are no format.
func others() []int {
	return []int{-1, 1, 2, 3, 5, 7, 8, 9, 10, 11, 13, 14, 256, 1 << 10, 65535, 4 + 1<<16, 1 << 32, math.MinInt, math.MaxInt}
}

// twos is numbers of 2 bytes, one behind the other.
func twos(l ...int) []byte {
	var b []byte
	for _, x := range l {
		b = append(b, byte(x>>8), byte(x))
	}
	return b
}

// fours is numbers of 4 bytes.
func fours(l ...int) []byte {
	var b []byte
	for _, x := range l {
		b = append(b, twos(x>>16, x)...)
	}
	return b
}

// setTwo and setFour put a number into bytes.
func setTwo(b []byte, at, x int)  { copy(b[at:], twos(x)) }
func setFour(b []byte, at, x int) { copy(b[at:], fours(x)) }

// format0 is a subtable of format 0; what is any is not 0.
func format0(glyphs [256]byte) []byte {
	return append(twos(0, 262, 0x1234), glyphs[:]...)
}

// format6 is a subtable of format 6.
func format6(first int, glyphs ...int) []byte {
	return append(twos(6, 10+2*len(glyphs), 0x1234, first, len(glyphs)), twos(glyphs...)...)
}

// seg is a segment of format 4: its first code point, its last, its delta, its offset.
type seg struct{ first, last, delta, offset int }

// end is the segment that ends a subtable of format 4.
var end = seg{65535, 65535, 1, 0}

// format4 is a subtable of format 4, with the rest behind its segments.
func format4(rest []int, segs ...seg) []byte {
	b := twos(4, 16+8*len(segs)+2*len(rest), 0x1234, 2*len(segs), 0xAAAA, 0xBBBB, 0xCCCC)
	column := func(of func(seg) int) {
		for _, s := range segs {
			b = append(b, twos(of(s))...)
		}
	}
	column(func(s seg) int { return s.last })
	b = append(b, 0xDD, 0xDD)
	column(func(s seg) int { return s.first })
	column(func(s seg) int { return s.delta })
	column(func(s seg) int { return s.offset })
	return append(b, twos(rest...)...)
}

// group is a group of format 12.
type group struct{ first, last, glyph int }

// format12 is a subtable of format 12.
func format12(groups ...group) []byte {
	b := append(twos(12, 0x1234), fours(16+12*len(groups), 0x12345678, len(groups))...)
	for _, g := range groups {
		b = append(b, fours(g.first, g.last, g.glyph)...)
	}
	return b
}

func two(b []byte, at int) int  { return int(b[at])<<8 | int(b[at+1]) }
func four(b []byte, at int) int { return two(b, at)<<16 | two(b, at+2) }

// glyphPlainly is the glyph that a subtable that may be names, as the chapter has it: all is looked at, from the first byte on.
func glyphPlainly(b []byte, code int) int {
	switch two(b, 0) {
	case 0:
		if code >= 0 && code <= 255 {
			return int(b[6+code])
		}
	case 6:
		if i := code - two(b, 6); i >= 0 && i < two(b, 8) {
			return two(b, 10+2*i)
		}
	case 4:
		s := two(b, 6) / 2
		for i := range s {
			last, first, delta, place := two(b, 14+2*i), two(b, 16+2*s+2*i), two(b, 16+4*s+2*i), 16+6*s+2*i
			offset := two(b, place)
			if code < first || code > last {
				continue
			}
			if offset == 0 || first == 65535 && offset == 65535 {
				return (code + delta) % 65536
			}
			v := two(b, place+offset+2*(code-first))
			if v == 0 {
				return 0
			}
			return (v + delta) % 65536
		}
	case 12:
		for i := range four(b, 12) {
			at := 16 + 12*i
			if first := four(b, at); first <= code && code <= four(b, at+4) {
				return four(b, at+8) + code - first
			}
		}
	}
	return 0
}

// errorPlainly is what a subtable is refused with, as the chapter has it.
func errorPlainly(b []byte) api.Errno {
	if len(b) < 2 {
		return api.ErrMap
	}
	may := false
	switch two(b, 0) {
	case 0:
		may = len(b) >= 4 && two(b, 2) >= 262 && two(b, 2) <= len(b)
	case 6:
		may = len(b) >= 10 && two(b, 2) <= len(b) && two(b, 2) >= 10+2*two(b, 8) && two(b, 6)+two(b, 8) <= 65536
	case 4:
		may = len(b) >= 24 && two(b, 2) <= len(b) && two(b, 2)%2 == 0 && two(b, 6)%2 == 0 && two(b, 6) >= 2 && two(b, 2) >= 16+4*two(b, 6) && segmentsMayPlainly(b)
	case 12:
		may = len(b) >= 16 && four(b, 4) <= len(b) && four(b, 4) >= 16+12*four(b, 12) && groupsMayPlainly(b)
	default:
		return api.ErrFormat
	}
	if !may {
		return api.ErrMap
	}
	return api.OK
}

func segmentsMayPlainly(b []byte) bool {
	s := two(b, 6) / 2
	for i := range s {
		last, first, place := two(b, 14+2*i), two(b, 16+2*s+2*i), 16+6*s+2*i
		offset := two(b, place)
		if first > last || i > 0 && first <= two(b, 12+2*i) {
			return false
		}
		if offset == 0 || offset == 65535 && first == 65535 {
			continue
		}
		for code := first; code <= last; code++ {
			if offset%2 != 0 || place+offset+2*(code-first)+2 > two(b, 2) {
				return false
			}
		}
	}
	return two(b, 12+2*s) == 65535
}

func groupsMayPlainly(b []byte) bool {
	for i := range four(b, 12) {
		at := 16 + 12*i
		if four(b, at) > four(b, at+4) || four(b, at+4) > 0x10FFFF || i > 0 && four(b, at) <= four(b, at-8) {
			return false
		}
	}
	return true
}

func loadsNot(t *testing.T, b []byte, n int, want api.Errno) {
	t.Helper()
	if m, e := charmap.Load(b, n); m != nil || e != want {
		t.Errorf("Load of %d bytes %.60v, %d: %v %d, want %d", len(b), b, n, m, e, want)
	}
}

// loads asks that bytes are loaded as a map whose glyphs are those that are reckoned plainly, of code points up to most.
func loads(t *testing.T, b []byte, n, most int) *charmap.Map {
	t.Helper()
	m, e := charmap.Load(b, n)
	if e != api.OK || m == nil {
		t.Fatalf("Load of %d bytes %.60v, %d: %v %d", len(b), b, n, m, e)
	}
	var l []api.Pair
	for code := -2; code <= most; code++ {
		glyph := glyphPlainly(b, code)
		if glyph >= n {
			glyph = 0
		}
		if have := m.Glyph(code); have != glyph {
			t.Fatalf("%.60v: Glyph(%d): %d, want %d", b, code, have, glyph)
		}
		if glyph != 0 {
			l = append(l, api.Pair{Code: code, Glyph: glyph})
		}
	}
	if all := slices.Collect(m.All(math.MinInt, most+1)); !slices.Equal(all, l) {
		t.Fatalf("%.60v: All: %v, want %v", b, all, l)
	}
	if m.Format() != two(b, 0) {
		t.Errorf("Format: %d, want %d", m.Format(), two(b, 0))
	}
	return m
}

// has asks that a map has these pairs, and no others.
func has(t *testing.T, m *charmap.Map, l ...api.Pair) {
	t.Helper()
	if all := slices.Collect(m.All(math.MinInt, math.MaxInt)); !slices.Equal(all, l) {
		t.Errorf("All: %v, want %v", all, l)
	}
	for _, p := range l {
		if g := m.Glyph(p.Code); g != p.Glyph {
			t.Errorf("Glyph(%d): %d, want %d", p.Code, g, p.Glyph)
		}
	}
}

func TestExampleOfCharmap(t *testing.T) {
	l := []api.Pair{{Code: 65, Glyph: 1}, {Code: 66, Glyph: 2}, {Code: 67, Glyph: 3}}
	b, e := charmap.Make(4, l)
	if want := twos(4, 32, 0, 4, 4, 1, 0, 67, 65535, 0, 65, 65535, -64, 1, 0, 0); e != api.OK || !bytes.Equal(b, want) {
		t.Fatal(b, e, want)
	}
	has(t, loads(t, b, 4, 65540), l...)
}

// samples is a subtable of each kind, with the pairs that it names of 100 glyphs.
func samples() map[string][]byte {
	var glyphs [256]byte
	glyphs[0], glyphs[65], glyphs[66], glyphs[254], glyphs[255] = 1, 2, 255, 99, 100
	return map[string][]byte{
		"0":             format0(glyphs),
		"6":             format6(65, 1, 0, 3, 99, 100, 5),
		"6, at the end": format6(65530, 1, 2, 3, 4, 5, 6),
		"6, none":       format6(65),
		"4":             format4(nil, seg{10, 20, -9, 0}, seg{22, 22, 5, 0}, seg{40, 60, 0, 0}, end),
		"4, none":       format4(nil, end),
		"4, listed":     format4([]int{7, 0, 9, 60000, 5}, seg{10, 12, 0, 6}, seg{20, 22, 5540, 8}, end),
		"4, no offset":  format4(nil, seg{3, 5, 1, 0}, seg{65535, 65535, 5, 65535}),
		"4, all":        format4(nil, seg{0, 65535, 50, 0}),
		"12":            format12(group{1, 5, 10}, group{6, 6, 98}, group{70000, 70003, 0}, group{0x10FFFE, 0x10FFFF, 3}),
		"12, none":      format12(),
		"12, beyond":    format12(group{0, 5, 97}, group{7, 9, 1<<32 - 2}),
	}
}

func TestSamples(t *testing.T) {
	for name, b := range samples() {
		for _, n := range []int{1, 2, 3, 99, 100, 101, 256, api.MaxGlyphs} {
			t.Log(name, n)
			loads(t, b, n, 70010)
		}
	}
	m := loads(t, samples()["12"], 100, 70010)
	if m.Glyph(0x10FFFF) != 4 || m.Glyph(0x110000) != 0 {
		t.Error("not the last code point")
	}
}

// TestBeginsWithASubtable: of a subtable all bytes are asked for, and what follows is not looked at.
func TestBeginsWithASubtable(t *testing.T) {
	for _, b := range samples() {
		loads(t, append(slices.Clone(b), 0xFF, 0xFF, 0xFF), 100, 300)
		for less := range b {
			loadsNot(t, b[:less], 100, api.ErrMap)
		}
	}
	loadsNot(t, nil, 1, api.ErrMap)
	loadsNot(t, []byte{}, 1, api.ErrMap)
	loadsNot(t, []byte{4}, 1, api.ErrMap)
	loadsNot(t, []byte{9}, 1, api.ErrMap)
}

func TestCountsOfGlyphs(t *testing.T) {
	for _, b := range [][]byte{nil, {9, 9}, {0, 4}, samples()["4"], samples()["12"]} {
		for _, n := range []int{0, -1, api.MaxGlyphs + 1, 1<<32 + 1, math.MinInt, math.MaxInt} {
			loadsNot(t, b, n, api.ErrArg)
		}
	}
}

// TestFormats: a format that is none is told, whatever follows; Make tells it ahead of all else.
func TestFormats(t *testing.T) {
	for format := range 1 << 16 {
		b := append(twos(format), make([]byte, 6)...)
		want := errorPlainly(b)
		if _, e := charmap.Load(b, 5); e != want {
			t.Fatalf("format %d: %d, want %d", format, e, want)
		}
		if slices.Contains(formats(), format) {
			continue
		}
		loadsNot(t, b[:2], 5, api.ErrFormat)
	}
	for _, format := range others() {
		for _, l := range [][]api.Pair{nil, {{Code: 1, Glyph: 1}}, {{Code: -1, Glyph: 0}}, somePairs(9000, 2)} {
			makesNot(t, format, l, api.ErrFormat)
		}
	}
}

// TestLengths tells each length of each sample.
func TestLengths(t *testing.T) {
	for name, b := range samples() {
		room := append(slices.Clone(b), make([]byte, 9)...)
		for length := range len(room) + 4 {
			setLength(room, length)
			if want := errorPlainly(room); want != api.OK {
				loadsNot(t, room, 100, want)
			} else if length < len(b) || length > len(room) || two(b, 0) == 4 && length%2 != 0 {
				t.Fatal(name, length, "is loaded")
			} else {
				loads(t, room, 100, 300)
			}
		}
		for _, length := range []int{65535, 1 << 31, 1<<32 - 1} {
			setLength(room, length)
			if two(b, 0) == 12 || length == 65535 {
				loadsNot(t, room, 100, api.ErrMap)
			}
		}
	}
}

func setLength(b []byte, length int) {
	if two(b, 0) == 12 {
		setFour(b, 4, length)
	} else {
		setTwo(b, 2, length)
	}
}

// TestLongestSubtables: a length of 2 bytes is told in full, and all that stands within it is read.
func TestLongestSubtables(t *testing.T) {
	glyphs := make([]int, 32762)
	for i := range glyphs {
		glyphs[i] = i%7 + 1
	}
	b := format6(3, glyphs...)
	loads(t, b, 8, 65540)
	setTwo(b, 2, 65535)
	loads(t, append(b, 0), 8, 65540)
	loadsNot(t, b, 8, api.ErrMap)
	b = format4(glyphs[:32755], seg{100, 32854, 3, 2}, end)
	loadsNot(t, b, 9, api.ErrMap) // the first glyph is the other segment's offset
	b = format4(glyphs[:32751], seg{100, 32850, 3, 4}, end)
	loads(t, b, 9, 65540)
	segs := make([]seg, 8188)
	for i := range segs {
		segs[i] = seg{8 * i, 8*i + i%8, i, 0}
	}
	loads(t, format4(nil, append(segs, end)...), 300, 9000)
}

// TestTrimmed: code points of format 6 end by the last one of 2 bytes.
func TestTrimmed(t *testing.T) {
	for _, c := range []struct {
		first, n int
		may      bool
	}{{65535, 1, true}, {65535, 0, true}, {65535, 2, false}, {65530, 6, true}, {65530, 7, false}, {0, 0, true}, {0, 5, true}, {65516, 20, true}, {65517, 20, false}} {
		b := format6(c.first, slices.Repeat([]int{7}, c.n)...)
		if c.may {
			loads(t, b, 8, 65560)
		} else {
			loadsNot(t, b, 8, api.ErrMap)
		}
	}
	b := format6(5, 1, 2, 3)
	for n := range 10 {
		setTwo(b, 8, n)
		if n <= 3 {
			loads(t, b, 8, 20)
		} else {
			loadsNot(t, append(slices.Clone(b), make([]byte, 40)...), 8, api.ErrMap)
		}
	}
	setTwo(b, 8, 65535)
	loadsNot(t, append(b, make([]byte, 1<<18)...), 8, api.ErrMap)
}

// TestCountsOfSegments tells each double of a number of segments.
func TestCountsOfSegments(t *testing.T) {
	b := append(format4([]int{0, 0, 0, 0, 0, 0}, seg{10, 20, 1, 0}, end), make([]byte, 100)...)
	for twice := range 40 {
		c := slices.Clone(b)
		setTwo(c, 6, twice)
		if twice == 4 {
			loads(t, c, 50, 30)
		} else {
			loadsNot(t, c, 50, api.ErrMap)
		}
	}
	// An odd double is none, also where what stands there could be read with one segment.
	one := append(format4([]int{0}, end), 0, 0)
	loads(t, one, 5, 20)
	setTwo(one, 6, 3)
	loadsNot(t, one, 5, api.ErrMap)
	setTwo(one, 6, 0)
	loadsNot(t, one, 5, api.ErrMap)
	setTwo(one, 6, 1)
	loadsNot(t, one, 5, api.ErrMap)
	setTwo(one, 6, 65535)
	loadsNot(t, one, 5, api.ErrMap)
	setTwo(one, 6, 65534)
	loadsNot(t, one, 5, api.ErrMap)
}

// TestOrderOfSegments: segments rise, do not touch one another, and end with the last code point.
func TestOrderOfSegments(t *testing.T) {
	for _, c := range []struct {
		segs []seg
		may  bool
	}{
		{[]seg{{1, 1, 0, 0}, {2, 2, 0, 0}, end}, true},
		{[]seg{{1, 5, 0, 0}, {6, 65534, 0, 0}, end}, true},
		{[]seg{{1, 5, 0, 0}, {6, 65535, 0, 0}}, true},
		{[]seg{{0, 0, 3, 0}, end}, true},
		{[]seg{{1, 5, 0, 0}, {5, 9, 0, 0}, end}, false},
		{[]seg{{1, 5, 0, 0}, {4, 9, 0, 0}, end}, false},
		{[]seg{{6, 9, 0, 0}, {1, 5, 0, 0}, end}, false},
		{[]seg{{1, 9, 0, 0}, {3, 5, 0, 0}, end}, false},
		{[]seg{{5, 4, 0, 0}, end}, false},
		{[]seg{{1, 4, 0, 0}, {6, 5, 0, 0}, end}, false},
		{[]seg{{1, 5, 0, 0}, {1, 5, 0, 0}, end}, false},
		{[]seg{{1, 5, 0, 0}}, false},
		{[]seg{{1, 65534, 0, 0}}, false},
		{[]seg{end, end}, false},
		{[]seg{end, {1, 5, 0, 0}}, false},
		{[]seg{{1, 65535, 0, 0}, end}, false},
	} {
		if b := format4(nil, c.segs...); c.may {
			loads(t, b, 9, 65540)
		} else {
			loadsNot(t, b, 9, api.ErrMap)
		}
	}
}

// TestDeltas: glyphs of format 4 go round at 2^16.
func TestDeltas(t *testing.T) {
	for _, delta := range []int{0, 1, 2, 65535, 65534, 65530, 32768, 65526} {
		loads(t, format4(nil, seg{5, 15, delta, 0}, seg{65535, 65535, delta, 0}), 40000, 65540)
		loads(t, format4([]int{1, 0, 5, 65535, 10}, seg{5, 9, delta, 4}, seg{65535, 65535, delta, 10}), 40000, 65540)
		loads(t, format4(nil, seg{0, 65535, delta, 0}), 40000, 65540)
	}
	m := loads(t, format4([]int{0, 10, 65535}, seg{5, 7, 3, 4}, end), 20, 65540)
	has(t, m, api.Pair{Code: 6, Glyph: 13}, api.Pair{Code: 7, Glyph: 2})
	m = loads(t, format4(nil, seg{8, 12, 65526, 0}, end), api.MaxGlyphs, 65540) // 65534, then one that there is not, then 0
	has(t, m, api.Pair{Code: 8, Glyph: 65534}, api.Pair{Code: 11, Glyph: 1}, api.Pair{Code: 12, Glyph: 2})
}

// TestOffsets tells each offset of a segment, ahead of numbers that begin with the next segments' offsets.
func TestOffsets(t *testing.T) {
	for n := 1; n <= 5; n++ {
		for offset := range 40 {
			b := format4([]int{1, 2, 3, 4, 5, 6}, seg{10, 9 + n, 0, offset}, seg{20, 20, 0, 0}, end)
			if offset == 0 || offset%2 == 0 && 16+18+offset+2*n <= len(b) {
				loads(t, b, 50, 65540)
			} else {
				loadsNot(t, append(b, make([]byte, 100)...), 50, api.ErrMap)
			}
		}
	}
	for _, offset := range []int{65535, 65534, 32768, 65533, 1} {
		loadsNot(t, append(format4([]int{1, 2}, seg{10, 10, 0, offset}, end), make([]byte, 1<<17)...), 50, api.ErrMap)
		loadsNot(t, append(format4([]int{1, 2}, seg{65534, 65535, 0, offset}), make([]byte, 1<<17)...), 50, api.ErrMap)
		b := append(format4([]int{1, 2}, seg{10, 10, 0, 0}, seg{65535, 65535, 6, offset}), make([]byte, 1<<17)...)
		if offset == 65535 {
			has(t, loads(t, b, 50, 65540), api.Pair{Code: 10, Glyph: 10}, api.Pair{Code: 65535, Glyph: 5})
		} else {
			loadsNot(t, b, 50, api.ErrMap)
		}
	}
	// Two segments may share numbers, and the last one may be named so too.
	m := loads(t, format4([]int{7, 8, 9}, seg{10, 12, 0, 6}, seg{20, 21, 1, 6}, seg{65535, 65535, 0, 2}), 50, 65540)
	has(t, m, api.Pair{Code: 10, Glyph: 7}, api.Pair{Code: 11, Glyph: 8}, api.Pair{Code: 12, Glyph: 9}, api.Pair{Code: 20, Glyph: 9}, api.Pair{Code: 21, Glyph: 10}, api.Pair{Code: 65535, Glyph: 7})
}

// TestManyLists: segments that are all of the same code points are refused before all of them are read.
func TestManyLists(t *testing.T) {
	segs := slices.Repeat([]seg{{0, 8000, 0, 40000}}, 3000)
	loadsNot(t, format4(make([]int, 20000), append(segs, end)...), 50, api.ErrMap)
}

// TestGroups: groups rise, do not touch one another, and end by LastCode.
func TestGroups(t *testing.T) {
	for _, c := range []struct {
		groups []group
		may    bool
	}{
		{[]group{{0, 0, 1}, {1, 1, 9}, {2, 5, 1}}, true},
		{[]group{{0, api.LastCode, 1}}, true},
		{[]group{{api.LastCode, api.LastCode, 1}}, true},
		{[]group{{5, 9, 1<<32 - 1}}, true},
		{[]group{{api.LastCode, api.LastCode + 1, 1}}, false},
		{[]group{{api.LastCode + 1, api.LastCode + 1, 1}}, false},
		{[]group{{0, 1<<32 - 1, 1}}, false},
		{[]group{{5, 4, 1}}, false},
		{[]group{{1, 5, 1}, {5, 9, 1}}, false},
		{[]group{{1, 5, 1}, {1, 5, 1}}, false},
		{[]group{{6, 9, 1}, {1, 5, 1}}, false},
		{[]group{{1, 9, 1}, {3, 4, 1}}, false},
		{[]group{{1, 9, 1}, {11, 10, 1}}, false},
	} {
		if b := format12(c.groups...); c.may {
			loads(t, b, 9, 70000)
		} else {
			loadsNot(t, b, 9, api.ErrMap)
		}
	}
}

// TestCountsOfGroups tells each number of groups.
func TestCountsOfGroups(t *testing.T) {
	b := append(format12(group{1, 5, 1}, group{7, 9, 1}, group{12, 14, 5}), make([]byte, 100)...)
	for n := range 9 {
		setFour(b, 12, n)
		if n <= 3 {
			loads(t, b, 50, 30)
		} else {
			loadsNot(t, b, 50, api.ErrMap)
		}
	}
	for _, n := range []int{1 << 16, 1 << 24, 1 << 31, 1<<32 - 1} {
		setFour(b, 12, n)
		loadsNot(t, b, 50, api.ErrMap)
	}
}

// TestGlyphsThatThereAreNot: such a code point has glyph 0, and is not gone over.
func TestGlyphsThatThereAreNot(t *testing.T) {
	for n := 1; n <= 12; n++ {
		var l []api.Pair
		for i := 1; i < min(n, 11); i++ {
			l = append(l, api.Pair{Code: 100 + i, Glyph: i})
		}
		var glyphs [256]byte
		list := make([]int, 11)
		for i := range list {
			glyphs[100+i], list[i] = byte(i), i
		}
		for _, b := range [][]byte{format0(glyphs), format6(100, list...), format4(nil, seg{100, 110, -100, 0}, end), format4(list, seg{100, 110, 0, 4}, end), format12(group{100, 110, 0})} {
			has(t, loads(t, b, n, 120), l...)
		}
	}
	has(t, loads(t, format12(group{7, 9, 65533}), api.MaxGlyphs, 20), api.Pair{Code: 7, Glyph: 65533}, api.Pair{Code: 8, Glyph: 65534})
	has(t, loads(t, format12(group{7, 9, 65534}, group{10, 10, 65536}, group{11, 12, 1<<32 - 1}), api.MaxGlyphs, 20), api.Pair{Code: 7, Glyph: 65534})
}

// far are code points far off.
func far() []int {
	return []int{-1, -65, -1 << 16, 0x110000, 0x110041, 65 + 1<<32, math.MinInt, math.MinInt + 65, math.MaxInt}
}

func TestFarCodes(t *testing.T) {
	for _, b := range samples() {
		m := loads(t, b, 100, 10)
		for _, code := range far() {
			if g := m.Glyph(code); g != 0 {
				t.Errorf("%.60v: Glyph(%d): %d", b, code, g)
			}
		}
	}
}

// TestAll goes over all ranges of code points, and is stopped at each place.
func TestAll(t *testing.T) {
	var glyphs [256]byte
	glyphs[3], glyphs[4], glyphs[7], glyphs[10] = 5, 1, 2, 9
	want := []api.Pair{{Code: 3, Glyph: 5}, {Code: 4, Glyph: 1}, {Code: 7, Glyph: 2}, {Code: 10, Glyph: 9}}
	for _, b := range [][]byte{format0(glyphs), format6(2, 0, 5, 1, 0, 0, 2, 0, 0, 9), format12(group{3, 3, 5}, group{4, 4, 1}, group{7, 7, 2}, group{10, 10, 9}), format4([]int{0, 5, 1, 0, 0, 2}, seg{2, 7, 0, 6}, seg{10, 10, -1, 0}, end)} {
		m := loads(t, b, 50, 300)
		for _, from := range append(far(), 0, 1, 2, 3, 4, 5, 6, 7, 8, 9, 10, 11, 12, 300) {
			for _, to := range append(far(), 0, 1, 2, 3, 4, 5, 6, 7, 8, 9, 10, 11, 12, 300) {
				var l []api.Pair
				for _, p := range want {
					if from <= p.Code && p.Code < to {
						l = append(l, p)
					}
				}
				if all := slices.Collect(m.All(from, to)); !slices.Equal(all, l) {
					t.Errorf("All(%d, %d): %v, want %v", from, to, all, l)
				}
			}
		}
		all := m.All(0, 20)
		for stop := range want {
			var l []api.Pair
			for p := range all {
				l = append(l, p)
				if len(l) == stop+1 {
					break
				}
			}
			if !slices.Equal(l, want[:stop+1]) {
				t.Error(stop, l)
			}
		}
		count := 0
		for p := range all {
			for q := range all {
				if p == q {
					count++
				}
			}
		}
		if count != len(want) {
			t.Error(count)
		}
	}
}

func TestNilMap(t *testing.T) {
	var m *charmap.Map
	for _, code := range append(far(), 0, 65) {
		if m.Glyph(code) != 0 {
			t.Error(code)
		}
	}
	if m.Format() != 0 {
		t.Error(m.Format())
	}
	for range m.All(math.MinInt, math.MaxInt) {
		t.Error("All goes over something")
	}
}

// TestMapsAreTheirOwn changes what was handed in, and what was answered.
func TestMapsAreTheirOwn(t *testing.T) {
	for name, b := range samples() {
		room := append(slices.Clone(b), 7, 7, 7)
		were := slices.Clone(room)
		m, e := charmap.Load(room[:len(b)], 100)
		if e != api.OK || !bytes.Equal(room, were) {
			t.Error(name, "bytes are changed", e)
		}
		clear(room)
		for code := range 70010 {
			want := glyphPlainly(b, code)
			if want >= 100 {
				want = 0
			}
			if g := m.Glyph(code); g != want {
				t.Fatal(name, code, g, want)
			}
		}
	}
	for _, format := range formats() {
		room := somePairs(9, 3)
		were := slices.Clone(room)
		b, _ := charmap.Make(format, room[:6])
		want := slices.Clone(b)
		spare := b[:cap(b)]
		for i := range spare {
			spare[i] = 0xAA
		}
		if !slices.Equal(room, were) {
			t.Error(format, "pairs are changed")
		}
		if again, e := charmap.Make(format, room[:6]); e != api.OK || !bytes.Equal(again, want) {
			t.Error(format, again, e)
		}
	}
}

// sampleOf draws a subtable that may be.
func sampleOf(draw *rand.Rand, format int) []byte {
	n := 1 + draw.Intn(5)
	list := make([]int, draw.Intn(12))
	for i := range list {
		list[i] = draw.Intn(20)
	}
	var segs []seg
	var groups []group
	code := draw.Intn(4)
	for range n {
		length := draw.Intn(4)
		s := seg{code, code + length, draw.Intn(40) - 20, 0}
		segs, groups = append(segs, s), append(groups, group{code, code + length, draw.Intn(30)})
		code += length + 1 + draw.Intn(4)
	}
	switch format {
	case 0:
		var glyphs [256]byte
		draw.Read(glyphs[:])
		return format0(glyphs)
	case 6:
		return format6(draw.Intn(30), list...)
	case 12:
		return format12(groups...)
	}
	for i := range segs {
		if draw.Intn(3) == 0 {
			segs[i].offset = 2 * (1 + draw.Intn(n-i+len(list)))
		}
	}
	return format4(list, append(segs, end)...)
}

// TestDrawnSubtables draws subtables, changes some of their bytes, and holds them against a plain reckoning.
func TestDrawnSubtables(t *testing.T) {
	draw := rand.New(rand.NewSource(1))
	count := map[[2]int]int{}
	for range 20000 {
		format := formats()[draw.Intn(4)]
		b := sampleOf(draw, format)
		for range draw.Intn(3) {
			at := draw.Intn(min(len(b), 90))
			b[at] = byte(int(b[at]) + draw.Intn(9) - 4)
		}
		b = b[:len(b)-draw.Intn(2)*draw.Intn(3)]
		n := 1 + draw.Intn(30)
		want := errorPlainly(b)
		count[[2]int{format, int(want)}]++
		if want == api.OK {
			loads(t, b, n, 300)
		} else {
			loadsNot(t, b, n, want)
		}
	}
	for _, format := range formats() {
		if count[[2]int{format, 0}] < 1000 || count[[2]int{format, int(api.ErrMap)}] < 1000 {
			t.Error("not of all kinds:", count)
		}
	}
}

// TestAnyBytes: whatever is handed in is answered.
func TestAnyBytes(t *testing.T) {
	draw := rand.New(rand.NewSource(2))
	for range 20000 {
		b := make([]byte, draw.Intn(400))
		draw.Read(b)
		if len(b) > 8 {
			copy(b, twos(formats()[draw.Intn(4)], draw.Intn(420)))
			if draw.Intn(2) == 0 {
				copy(b[4:], twos(draw.Intn(2), draw.Intn(420)))
			}
		}
		m, e := charmap.Load(b, 1+draw.Intn(api.MaxGlyphs))
		if e != errorPlainly(b) || (m == nil) != (e != api.OK) {
			t.Error(b, m, e)
		}
	}
}
