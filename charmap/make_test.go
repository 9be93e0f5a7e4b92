package charmap_test

import (
	"bytes"
	"math"
	"math/rand"
	"slices"
	"testing"

	"serif/api"
	"serif/charmap"
)

// somePairs is n pairs from code point 5 on, step apart; neighbours are no run where step is not 1.
func somePairs(n, step int) []api.Pair {
	var l []api.Pair
	for i := range n {
		l = append(l, api.Pair{Code: 5 + i*step, Glyph: 1 + i%200})
	}
	return l
}

func makesNot(t *testing.T, format int, l []api.Pair, want api.Errno) {
	t.Helper()
	if b, e := charmap.Make(format, l); len(b) != 0 || e != want {
		t.Errorf("Make(%d) of %d: %.60v %d, want %d", format, len(l), b, e, want)
	}
}

// makes asks that these pairs are made these bytes, and are loaded from them.
func makes(t *testing.T, format int, l []api.Pair, want []byte) {
	t.Helper()
	b, e := charmap.Make(format, l)
	if e != api.OK || !bytes.Equal(b, want) {
		t.Fatalf("Make(%d) of %d %.200v: %.200v %d, want %.200v", format, len(l), l, b, e, want)
	}
	for _, n := range []int{1, 2, 100, 256, api.MaxGlyphs} {
		m, e := charmap.Load(b, n)
		if e != api.OK || m.Format() != format {
			t.Fatal(format, len(l), e)
		}
		var there []api.Pair
		for _, p := range l {
			if p.Glyph < n {
				there = append(there, p)
			}
		}
		has(t, m, there...)
	}
}

// subtablePlainly is the subtable that pairs make, by hand.
func subtablePlainly(format int, l []api.Pair) []byte {
	groups, segs := groupsPlainly(l)
	switch format {
	case 0:
		var glyphs [256]byte
		for _, p := range l {
			glyphs[p.Code] = byte(p.Glyph)
		}
		return without(format0(glyphs), 4, 5)
	case 6:
		var glyphs []int
		for i := 0; i < len(l); i++ {
			for i > 0 && l[0].Code+len(glyphs) < l[i].Code {
				glyphs = append(glyphs, 0)
			}
			glyphs = append(glyphs, l[i].Glyph)
		}
		return without(format6(append(l, api.Pair{})[0].Code, glyphs...), 4, 5)
	case 12:
		return without(format12(groups...), 2, 3, 8, 9, 10, 11)
	}
	n := len(segs) + 1
	b := without(format4(nil, append(segs, end)...), 4, 5, 14+2*n, 15+2*n)
	power, often := 1, 0
	for ; 2*power <= n; often++ {
		power *= 2
	}
	copy(b[8:], twos(2*power, often, 2*n-2*power))
	return b
}

// without is bytes of which these are 0.
func without(b []byte, places ...int) []byte {
	for _, at := range places {
		b[at] = 0
	}
	return b
}

func groupsPlainly(l []api.Pair) (groups []group, segs []seg) {
	for i := 0; i < len(l); {
		n := 1
		for i+n < len(l) && l[i+n].Code == l[i].Code+n && l[i+n].Glyph == l[i].Glyph+n {
			n++
		}
		groups = append(groups, group{l[i].Code, l[i].Code + n - 1, l[i].Glyph})
		segs = append(segs, seg{l[i].Code, l[i].Code + n - 1, l[i].Glyph - l[i].Code, 0})
		i += n
	}
	return groups, segs
}

func TestMadeSubtables(t *testing.T) {
	pair := []api.Pair{{Code: 66, Glyph: 200}, {Code: 67, Glyph: 7}, {Code: 69, Glyph: 8}, {Code: 70, Glyph: 9}}
	var glyphs [256]byte
	glyphs[66], glyphs[67], glyphs[69], glyphs[70] = 200, 7, 8, 9
	makes(t, 0, pair, append(twos(0, 262, 0), glyphs[:]...))
	makes(t, 6, pair, twos(6, 20, 0, 66, 5, 200, 7, 0, 8, 9))
	makes(t, 4, pair, twos(4, 48, 0, 8, 8, 2, 0, 66, 67, 70, 65535, 0, 66, 67, 69, 65535, 134, -60, -61, 1, 0, 0, 0, 0))
	makes(t, 12, pair, append(twos(12, 0), fours(52, 0, 3, 66, 66, 200, 67, 67, 7, 69, 70, 8)...))
}

func TestMadeOfNone(t *testing.T) {
	for _, l := range [][]api.Pair{nil, {}} {
		makes(t, 0, l, append(twos(0, 262, 0), make([]byte, 256)...))
		makes(t, 6, l, twos(6, 10, 0, 0, 0))
		makes(t, 4, l, twos(4, 24, 0, 2, 2, 0, 0, 65535, 0, 65535, 1, 0))
		makes(t, 12, l, append(twos(12, 0), fours(16, 0, 0)...))
	}
}

// TestOrderOfErrors: a format that is none, then pairs that may not be, then too many of them.
func TestOrderOfErrors(t *testing.T) {
	for _, format := range formats() {
		l := somePairs(9000, 7)
		makesNot(t, format, l, map[bool]api.Errno{true: api.ErrArg, false: api.ErrLong}[format == 0])
		l[8999].Glyph = 0
		makesNot(t, format, l, api.ErrArg)
	}
}

// TestBoundsOfCodes: code points of each format from 0 to the greatest one.
func TestBoundsOfCodes(t *testing.T) {
	for format, most := range map[int]int{0: 255, 4: 65534, 6: 65535, 12: api.LastCode} {
		l := []api.Pair{{Code: most - 1, Glyph: 1}, {Code: most, Glyph: 2}}
		makes(t, format, l, subtablePlainly(format, l))
		makes(t, format, []api.Pair{{Code: 0, Glyph: 3}}, subtablePlainly(format, []api.Pair{{Code: 0, Glyph: 3}}))
		for _, code := range []int{-1, most + 1, 65536 + most, 1<<32 + 5, math.MinInt, math.MaxInt} {
			makesNot(t, format, []api.Pair{{Code: code, Glyph: 1}}, api.ErrArg)
		}
		makesNot(t, format, []api.Pair{{Code: most, Glyph: 1}, {Code: most + 1, Glyph: 2}}, api.ErrArg)
		makesNot(t, format, []api.Pair{{Code: -1, Glyph: 1}, {Code: 0, Glyph: 2}}, api.ErrArg)
	}
}

// TestBoundsOfGlyphs: glyphs of each format from 1 to the greatest one.
func TestBoundsOfGlyphs(t *testing.T) {
	for format, most := range map[int]int{0: 255, 4: 65535, 6: 65535, 12: 65535} {
		l := []api.Pair{{Code: 7, Glyph: most - 1}, {Code: 8, Glyph: most}, {Code: 9, Glyph: 1}, {Code: 12, Glyph: most}}
		makes(t, format, l, subtablePlainly(format, l))
		for _, glyph := range []int{0, -1, most + 1, 65536 + 5, 1<<32 + 5, math.MinInt, math.MaxInt} {
			for i := range l {
				wrong := slices.Clone(l)
				wrong[i].Glyph = glyph
				makesNot(t, format, wrong, api.ErrArg)
			}
		}
	}
}

func TestCodesThatDoNotRise(t *testing.T) {
	for _, format := range formats() {
		for n := 2; n <= 8; n++ {
			for i := range n {
				for j := range i {
					l := somePairs(n, 1+n%2)
					l[i], l[j] = l[j], l[i]
					makesNot(t, format, l, api.ErrArg)
					l = somePairs(n, 1+n%2)
					l[i].Code = l[j].Code
					makesNot(t, format, l, api.ErrArg)
				}
			}
		}
		makesNot(t, format, []api.Pair{{Code: 5, Glyph: 1}, {Code: 5, Glyph: 1}}, api.ErrArg)
	}
}

// TestMostCodes: as many pairs as may be, and as a length has room for.
func TestMostCodes(t *testing.T) {
	inARow := func(n int) []api.Pair {
		var l []api.Pair
		for i := range n {
			l = append(l, api.Pair{Code: 5 + i, Glyph: 100 + i})
		}
		return l
	}
	for _, format := range []int{4, 6, 12} {
		for _, n := range []int{api.MaxCodes - 1, api.MaxCodes} {
			makes(t, format, inARow(n), subtablePlainly(format, inARow(n)))
		}
		makesNot(t, format, inARow(api.MaxCodes+1), api.ErrLong)
		makesNot(t, format, inARow(60000), api.ErrLong)
	}
	for _, n := range []int{api.MaxCodes - 1, api.MaxCodes} {
		makes(t, 12, somePairs(n, 2), subtablePlainly(12, somePairs(n, 2)))
	}
	makesNot(t, 12, somePairs(api.MaxCodes+1, 2), api.ErrLong)
	// 16 + 8 * 8189 bytes are fewer than 2^16, of which the last segment has 8; 8 more are not.
	makes(t, 4, somePairs(8188, 2), subtablePlainly(4, somePairs(8188, 2)))
	for _, n := range []int{8189, 8190, api.MaxCodes, api.MaxCodes + 1} {
		makesNot(t, 4, somePairs(n, 2), api.ErrLong)
	}
	// As many pairs, in fewer segments.
	joined := somePairs(8189, 2)
	joined[8188] = api.Pair{Code: joined[8187].Code + 1, Glyph: joined[8187].Glyph + 1}
	makes(t, 4, joined, subtablePlainly(4, joined))
	var all []api.Pair
	for code := range 256 {
		all = append(all, api.Pair{Code: code, Glyph: 255 - code/2})
	}
	makes(t, 0, all, subtablePlainly(0, all))
}

// TestSpanOfTrimmed: of format 6 the code points from the first to the last are counted.
func TestSpanOfTrimmed(t *testing.T) {
	for _, first := range []int{0, 1, 5000, 65535 - 8191} {
		l := []api.Pair{{Code: first, Glyph: 1}, {Code: first + 8191, Glyph: 2}}
		makes(t, 6, l, subtablePlainly(6, l))
		if first+8192 <= 65535 {
			makesNot(t, 6, []api.Pair{{Code: first, Glyph: 1}, {Code: first + 8192, Glyph: 2}}, api.ErrLong)
		}
	}
	makesNot(t, 6, []api.Pair{{Code: 0, Glyph: 1}, {Code: 65535, Glyph: 2}}, api.ErrLong)
	far := []api.Pair{{Code: 0, Glyph: 1}, {Code: 65534, Glyph: 2}}
	makes(t, 4, far, subtablePlainly(4, far))
	makes(t, 12, far, subtablePlainly(12, far))
}

// TestSearchNumbers tells the three numbers of format 4, by numbers of segments.
func TestSearchNumbers(t *testing.T) {
	for s, want := range map[int][3]int{1: {2, 0, 0}, 2: {4, 1, 0}, 3: {4, 1, 2}, 4: {8, 2, 0}, 7: {8, 2, 6}, 8: {16, 3, 0}, 8189: {8192, 12, 8186}} {
		b, e := charmap.Make(4, somePairs(s-1, 2))
		if e != api.OK || !bytes.Equal(b[6:14], twos(2*s, want[0], want[1], want[2])) {
			t.Errorf("of %d segments: %v %d, want %v", s, b[6:14], e, want)
		}
	}
}

// TestDrawnPairs draws pairs with runs and holes, and holds what they make against a plain reckoning.
func TestDrawnPairs(t *testing.T) {
	draw := rand.New(rand.NewSource(3))
	for range 4000 {
		var l []api.Pair
		code, glyph := draw.Intn(3), 1+draw.Intn(20)
		for range draw.Intn(25) {
			l = append(l, api.Pair{Code: code, Glyph: glyph})
			code, glyph = code+1, glyph+1
			switch draw.Intn(5) {
			case 0:
				code += draw.Intn(4)
			case 1:
				glyph = 1 + draw.Intn(200)
			}
		}
		for _, format := range formats() {
			makes(t, format, l, subtablePlainly(format, l))
		}
	}
}
