package metric_test

import (
	"bytes"
	"math"
	"math/rand"
	"slices"
	"testing"

	"serif/api"
	"serif/metric"
)

// beyond is glyphs that are none of n.
func beyond(n int) []int {
	return []int{-1, n, n + 1, -n, 1 << 16, 1 << 32, math.MinInt, math.MaxInt}
}

// metricsBytes is the table of metrics, by hand, whether they may be or not.
func metricsBytes(l []api.Metric, m int) []byte {
	var b []byte
	for i, x := range l {
		if i < m {
			b = append(b, byte(x.Advance>>8), byte(x.Advance))
		}
		b = append(b, byte(x.Bearing>>8), byte(x.Bearing))
	}
	return b
}

// someMetrics is n metrics, the first m with an advance of their own; neighbours differ.
func someMetrics(n, m int) []api.Metric {
	var l []api.Metric
	for i := range n {
		x := api.Metric{Advance: (60000 + 7*min(i, m-1)) % 65536, Bearing: (301*i+1<<14)%(1<<16) - 1<<15}
		l = append(l, x)
	}
	return l
}

// loads asks that bytes are loaded as these metrics, and no others.
func loads(t *testing.T, b []byte, l []api.Metric, m int) {
	t.Helper()
	x, e := metric.Load(b, len(l), m)
	if e != api.OK || x == nil {
		t.Fatalf("Load of %d, %d: %v %d", len(l), m, x, e)
	}
	are(t, x, l)
}

func are(t *testing.T, x *metric.Metrics, l []api.Metric) {
	t.Helper()
	if x.Len() != len(l) {
		t.Errorf("Len: %d, want %d", x.Len(), len(l))
	}
	for glyph, want := range l {
		if have, e := x.At(glyph); have != want || e != api.OK {
			t.Errorf("At(%d): %v %d, want %v", glyph, have, e, want)
		}
	}
	for _, glyph := range beyond(len(l)) {
		if have, e := x.At(glyph); have != (api.Metric{}) || e != api.ErrGlyph {
			t.Errorf("At(%d) of %d: %v %d", glyph, len(l), have, e)
		}
	}
}

func loadsNot(t *testing.T, b []byte, n, m int, want api.Errno) {
	t.Helper()
	if x, e := metric.Load(b, n, m); x != nil || e != want {
		t.Errorf("Load of %d bytes, %d, %d: %v %d, want %d", len(b), n, m, x, e, want)
	}
}

func puts(t *testing.T, l []api.Metric, m int) {
	t.Helper()
	if b, e := metric.Put(l, m); e != api.OK || !bytes.Equal(b, metricsBytes(l, m)) {
		t.Errorf("Put of %v, %d: %v %d", l, m, b, e)
	}
}

func putsNot(t *testing.T, l []api.Metric, m int) {
	t.Helper()
	if b, e := metric.Put(l, m); len(b) != 0 || e != api.ErrArg {
		t.Errorf("Put of %d, %d: %v %d, want %d", len(l), m, b, e, api.ErrArg)
	}
}

func TestExampleOfMetric(t *testing.T) {
	l := []api.Metric{{Advance: 500, Bearing: 10}, {Advance: 500, Bearing: 20}}
	b, e := metric.Put(l, 1)
	if e != api.OK || !bytes.Equal(b, []byte{1, 244, 0, 10, 0, 20}) {
		t.Error(b, e)
	}
	loads(t, b, l, 1)
}

// TestMetrics tells tables of all counts up to 9; what follows is not looked at, one byte less is too few.
func TestMetrics(t *testing.T) {
	for n := 1; n <= 9; n++ {
		for m := 1; m <= n; m++ {
			l := someMetrics(n, m)
			b := metricsBytes(l, m)
			puts(t, l, m)
			loads(t, b, l, m)
			loads(t, append(slices.Clone(b), 0xFF, 0xFF, 0xFF), l, m)
			for less := range b {
				loadsNot(t, b[:less], n, m, api.ErrMetric)
			}
			loadsNot(t, nil, n, m, api.ErrMetric)
		}
	}
}

func TestSignsOfMetrics(t *testing.T) {
	loads(t, []byte{0xFF, 0xFF, 0x80, 0, 0x80, 0, 0x7F, 0xFF, 0, 0, 0xFF, 0xFF}, []api.Metric{{Advance: 65535, Bearing: -1 << 15}, {Advance: 1 << 15, Bearing: 1<<15 - 1}, {Advance: 0, Bearing: -1}}, 3)
}

func TestMostMetrics(t *testing.T) {
	for _, m := range []int{1, 2, api.MaxGlyphs - 1, api.MaxGlyphs} {
		l := someMetrics(api.MaxGlyphs, m)
		b := metricsBytes(l, m)
		puts(t, l, m)
		loads(t, b, l, m)
		loadsNot(t, b[:len(b)-1], api.MaxGlyphs, m, api.ErrMetric)
		loadsNot(t, append(b, 0, 0, 0, 0), api.MaxGlyphs+1, m, api.ErrArg)
	}
	putsNot(t, someMetrics(api.MaxGlyphs+1, 1), 1)
	putsNot(t, someMetrics(api.MaxGlyphs+1, 1), api.MaxGlyphs+1)
}

// TestCountsOfMetrics: counts that may not be are told ahead of bytes that are too few.
func TestCountsOfMetrics(t *testing.T) {
	for _, b := range [][]byte{nil, make([]byte, 100)} {
		for _, c := range [][2]int{
			{0, 0}, {0, 1}, {-1, 1}, {-1, -1}, {api.MaxGlyphs + 1, 1}, {1 << 32, 1}, {math.MinInt, 1}, {math.MaxInt, 1},
			{5, 0}, {5, -1}, {5, 6}, {5, math.MinInt}, {5, math.MaxInt}, {5, 1<<32 + 1}, {math.MaxInt, math.MaxInt}, {1 << 62, 1 << 62},
		} {
			loadsNot(t, b, c[0], c[1], api.ErrArg)
		}
	}
	putsNot(t, nil, 0)
	putsNot(t, nil, 1)
	putsNot(t, []api.Metric{}, -1)
	for _, m := range []int{0, -1, 4, 5, 1<<32 + 1, math.MinInt, math.MaxInt} {
		putsNot(t, someMetrics(3, 1), m)
	}
}

// TestNumbersThatDoNotFit puts each into each place of a table that may be.
func TestNumbersThatDoNotFit(t *testing.T) {
	for i := range 4 {
		for _, x := range []int{-1, 65536, 500 + 1<<16, 500 - 1<<16, 500 + 1<<32, math.MinInt, math.MaxInt} {
			for m := i + 1; m <= 4; m++ { // each has its own, or they share this one
				l := slices.Repeat([]api.Metric{{Advance: 500}}, 4)
				for j := i; j == i || i == m-1 && j < 4; j++ {
					l[j].Advance = x
				}
				putsNot(t, l, m)
			}
		}
		for _, x := range []int{-1<<15 - 1, 1 << 15, 5 + 1<<16, 5 - 1<<16, 5 + 1<<32, math.MinInt, math.MaxInt} {
			for m := 1; m <= 4; m++ {
				l := slices.Repeat([]api.Metric{{Advance: 500}}, 4)
				l[i].Bearing = x
				putsNot(t, l, m)
			}
		}
	}
	for _, x := range []api.Metric{{}, {Advance: 65535, Bearing: -1 << 15}, {Bearing: 1<<15 - 1}} {
		puts(t, slices.Repeat([]api.Metric{x}, 3), 1)
		puts(t, slices.Repeat([]api.Metric{x}, 3), 3)
	}
}

// TestAnotherAdvance: behind the first m all have the last one of theirs.
func TestAnotherAdvance(t *testing.T) {
	for n := 1; n <= 6; n++ {
		for i := range n {
			for m := 1; m <= n; m++ {
				l := slices.Repeat([]api.Metric{{Advance: 500}}, n)
				l[i].Advance = 501
				if i >= m || i == m-1 && m < n {
					putsNot(t, l, m)
				} else {
					puts(t, l, m)
				}
			}
		}
	}
}

// TestMetricsAreTheirOwn changes what was handed in, and what was answered.
func TestMetricsAreTheirOwn(t *testing.T) {
	l := someMetrics(5, 3)
	was := slices.Clone(l)
	first, _ := metric.Put(l[:4], 3)
	spare := first[:cap(first)]
	for i := range spare {
		spare[i] = 0xAA
	}
	if !slices.Equal(l, was) {
		t.Error("metrics are changed")
	}
	puts(t, l, 3)
	room := append(metricsBytes(l, 3), 7, 7, 7)
	bytesWere := slices.Clone(room)
	x, _ := metric.Load(room[:len(room)-3], 5, 3)
	if !bytes.Equal(room, bytesWere) {
		t.Error("bytes are changed")
	}
	clear(room)
	are(t, x, l)
}

// TestMetricsAreLoadedAgain draws tables.
func TestMetricsAreLoadedAgain(t *testing.T) {
	draw := rand.New(rand.NewSource(7))
	for range 2000 {
		n := 1 + draw.Intn(30)
		m := 1 + draw.Intn(n)
		l := make([]api.Metric, n)
		for i := range l {
			l[i] = api.Metric{Advance: draw.Intn(1 << 16), Bearing: draw.Intn(1<<16) - 1<<15}
			if i >= m {
				l[i].Advance = l[m-1].Advance
			}
		}
		puts(t, l, m)
		loads(t, metricsBytes(l, m), l, m)
	}
}

// placesBytes is the table of offsets, by hand, whether they may be or not.
func placesBytes(offsets []int, long bool) []byte {
	var b []byte
	for _, x := range offsets {
		if long {
			b = append(b, byte(x>>24), byte(x>>16), byte(x>>8), byte(x))
		} else {
			b = append(b, byte(x>>9), byte(x>>1))
		}
	}
	return b
}

func loadsPlaces(t *testing.T, b []byte, offsets []int, long bool, size int) {
	t.Helper()
	p, e := metric.LoadPlaces(b, len(offsets)-1, long, size)
	if e != api.OK || p == nil {
		t.Fatalf("LoadPlaces of %v, %t, %d: %v %d", offsets, long, size, p, e)
	}
	placesAre(t, p, offsets)
}

func placesAre(t *testing.T, p *metric.Places, offsets []int) {
	t.Helper()
	n := len(offsets) - 1
	if p.Len() != n {
		t.Errorf("Len: %d, want %d", p.Len(), n)
	}
	for glyph := range n {
		if from, to, e := p.At(glyph); from != offsets[glyph] || to != offsets[glyph+1] || e != api.OK {
			t.Errorf("At(%d): %d %d %d, want %d %d", glyph, from, to, e, offsets[glyph], offsets[glyph+1])
		}
	}
	for _, glyph := range beyond(n) {
		if from, to, e := p.At(glyph); from != 0 || to != 0 || e != api.ErrGlyph {
			t.Errorf("At(%d) of %d: %d %d %d", glyph, n, from, to, e)
		}
	}
}

func loadsPlacesNot(t *testing.T, b []byte, n int, long bool, size int, want api.Errno) {
	t.Helper()
	if p, e := metric.LoadPlaces(b, n, long, size); p != nil || e != want {
		t.Errorf("LoadPlaces of %d bytes, %d, %t, %d: %v %d, want %d", len(b), n, long, size, p, e, want)
	}
}

func putsPlaces(t *testing.T, offsets []int, long bool) {
	t.Helper()
	if b, e := metric.PutPlaces(offsets, long); e != api.OK || !bytes.Equal(b, placesBytes(offsets, long)) {
		t.Errorf("PutPlaces of %v, %t: %v %d", offsets, long, b, e)
	}
}

func putsPlacesNot(t *testing.T, offsets []int, long bool) {
	t.Helper()
	if b, e := metric.PutPlaces(offsets, long); len(b) != 0 || e != api.ErrArg {
		t.Errorf("PutPlaces of %d, %t: %v %d, want %d", len(offsets), long, b, e, api.ErrArg)
	}
}

func TestPlaces(t *testing.T) {
	loadsPlaces(t, []byte{0, 0, 0, 1, 1, 2}, []int{0, 2, 516}, false, 516)
	loadsPlaces(t, []byte{0, 0, 0, 1, 0, 0, 1, 2, 0, 15, 255, 255}, []int{1, 258, 1<<20 - 1}, true, 1<<20)
	for _, offsets := range [][]int{{0, 0}, {0, 2}, {4, 4, 4}, {0, 10, 10, 22, 131070}, {131070, 131070}, {2, 4, 6, 8, 10}} {
		for _, long := range []bool{false, true} {
			b, last := placesBytes(offsets, long), offsets[len(offsets)-1]
			putsPlaces(t, offsets, long)
			loadsPlaces(t, b, offsets, long, last)
			loadsPlaces(t, b, offsets, long, api.MaxFile)
			loadsPlaces(t, append(slices.Clone(b), 0, 0, 0, 0, 0, 0, 0, 1), offsets, long, last)
			loadsPlacesNot(t, b, len(offsets)-1, long, last-1, errorBelow(last))
			for less := range b {
				loadsPlacesNot(t, b[:less], len(offsets)-1, long, api.MaxFile, api.ErrLoca)
			}
			loadsPlacesNot(t, nil, len(offsets)-1, long, api.MaxFile, api.ErrLoca)
		}
	}
}

// errorBelow is what is answered to a size that is one less than the last offset: below 0 it is none.
func errorBelow(last int) api.Errno {
	if last == 0 {
		return api.ErrArg
	}
	return api.ErrLoca
}

// TestFarPlaces: long ones are told to the byte, up to MaxFile, and refused beyond it.
func TestFarPlaces(t *testing.T) {
	for _, offsets := range [][]int{{0, 1}, {1, 3}, {0, 131071}, {0, 131072}, {131071, 1 << 20}, {1 << 20, 1 << 20}} {
		putsPlaces(t, offsets, true)
		putsPlacesNot(t, offsets, false)
		loadsPlaces(t, placesBytes(offsets, true), offsets, true, api.MaxFile)
	}
	for _, last := range []int{1<<20 + 1, 1 << 31, 1<<32 - 1} {
		offsets := []int{0, 5, last}
		putsPlacesNot(t, offsets, true)
		loadsPlacesNot(t, placesBytes(offsets, true), 2, true, api.MaxFile, api.ErrLoca)
	}
	loadsPlacesNot(t, []byte{0xFF, 0xFF, 0xFF, 0xFF, 0, 0, 0, 0}, 1, true, api.MaxFile, api.ErrLoca)
}

func TestPlacesThatFall(t *testing.T) {
	for _, offsets := range [][]int{{2, 0}, {0, 4, 2}, {4, 2, 6}, {0, 2, 4, 6, 4, 8}, {65536, 2}, {131070, 131068}} {
		for _, long := range []bool{false, true} {
			putsPlacesNot(t, offsets, long)
			loadsPlacesNot(t, placesBytes(offsets, long), len(offsets)-1, long, api.MaxFile, api.ErrLoca)
		}
	}
}

func TestMostPlaces(t *testing.T) {
	offsets := make([]int, api.MaxGlyphs+1)
	for i := range offsets {
		offsets[i] = 2 * i
	}
	for _, long := range []bool{false, true} {
		b := placesBytes(offsets, long)
		putsPlaces(t, offsets, long)
		loadsPlaces(t, b, offsets, long, 131070)
		loadsPlacesNot(t, b, api.MaxGlyphs, long, 131069, api.ErrLoca)
		loadsPlacesNot(t, b[:len(b)-1], api.MaxGlyphs, long, 131070, api.ErrLoca)
		loadsPlacesNot(t, append(b, b...), api.MaxGlyphs+1, long, 131070, api.ErrArg)
		putsPlacesNot(t, append(slices.Clone(offsets), 131070), long)
	}
}

// TestArgumentsOfPlaces: what may not be is told ahead of a table that may not be.
func TestArgumentsOfPlaces(t *testing.T) {
	for _, b := range [][]byte{nil, {9, 9, 9, 9, 1, 1, 1, 1}, make([]byte, 100)} {
		for _, long := range []bool{false, true} {
			for _, n := range []int{0, -1, api.MaxGlyphs + 1, 1<<32 + 1, 1 << 62, math.MinInt, math.MaxInt} {
				loadsPlacesNot(t, b, n, long, 100, api.ErrArg)
			}
			for _, size := range []int{-1, api.MaxFile + 1, 1 << 32, math.MinInt, math.MaxInt} {
				loadsPlacesNot(t, b, 1, long, size, api.ErrArg)
			}
		}
	}
	for _, long := range []bool{false, true} {
		for _, offsets := range [][]int{nil, {}, {0}, {-2, 0}, {-4, -2}, {math.MinInt, 0}, {0, math.MaxInt}, {0, math.MaxInt - 1}, {0, 1 << 32}} {
			putsPlacesNot(t, offsets, long)
		}
	}
	for _, offsets := range [][]int{{0, 3}, {1, 2}, {0, 1, 2}, {0, 131072}, {0, 131071}} {
		putsPlacesNot(t, offsets, false)
	}
}

// TestPlacesAreTheirOwn changes what was handed in, and what was answered.
func TestPlacesAreTheirOwn(t *testing.T) {
	offsets := []int{0, 4, 10, 10, 60}
	was := slices.Clone(offsets)
	for _, long := range []bool{false, true} {
		first, _ := metric.PutPlaces(offsets[:3], long)
		spare := first[:cap(first)]
		for i := range spare {
			spare[i] = 0xAA
		}
		if !slices.Equal(offsets, was) {
			t.Error("offsets are changed")
		}
		putsPlaces(t, offsets, long)
		room := append(placesBytes(offsets, long), 7, 7, 7)
		bytesWere := slices.Clone(room)
		p, _ := metric.LoadPlaces(room[:len(room)-3], 4, long, 60)
		if !bytes.Equal(room, bytesWere) {
			t.Error("bytes are changed")
		}
		clear(room)
		placesAre(t, p, offsets)
	}
}

// TestPlacesAreLoadedAgain draws offsets that do not fall, and some that do.
func TestPlacesAreLoadedAgain(t *testing.T) {
	draw := rand.New(rand.NewSource(8))
	count := map[bool]int{}
	for range 5000 {
		long := draw.Intn(2) == 0
		offsets := []int{2 * draw.Intn(5)}
		for range 1 + draw.Intn(9) {
			offsets = append(offsets, offsets[len(offsets)-1]+2*draw.Intn(50))
		}
		if i := draw.Intn(len(offsets)); draw.Intn(3) == 0 {
			offsets[i] = 2 * draw.Intn(500)
		}
		b, last := placesBytes(offsets, long), offsets[len(offsets)-1]
		sorted := slices.IsSorted(offsets)
		count[sorted]++
		if sorted {
			putsPlaces(t, offsets, long)
			loadsPlaces(t, b, offsets, long, last)
		} else {
			putsPlacesNot(t, offsets, long)
			loadsPlacesNot(t, b, len(offsets)-1, long, api.MaxFile, api.ErrLoca)
		}
	}
	if count[true] < 1000 || count[false] < 500 {
		t.Error("not of all kinds:", count)
	}
}

// TestAnyBytes: whatever is handed in is answered.
func TestAnyBytes(t *testing.T) {
	draw := rand.New(rand.NewSource(9))
	for range 5000 {
		b := make([]byte, draw.Intn(60))
		draw.Read(b)
		n, m := draw.Intn(20)-2, draw.Intn(20)-2
		x, e := metric.Load(b, n, m)
		if (e == api.OK) != (n >= 1 && m >= 1 && m <= n && len(b) >= 2*n+2*m) || (x != nil) != (e == api.OK) {
			t.Error(b, n, m, x, e)
		}
		p, e := metric.LoadPlaces(b, n, draw.Intn(2) == 0, draw.Intn(1<<21))
		if (p != nil) != (e == api.OK) {
			t.Error(b, n, p, e)
		}
	}
}

func TestOfANilOne(t *testing.T) {
	var x *metric.Metrics
	var p *metric.Places
	if x.Len() != 0 || p.Len() != 0 {
		t.Error("Len of a nil one")
	}
	for _, glyph := range append(beyond(1), 0) {
		if have, e := x.At(glyph); have != (api.Metric{}) || e != api.ErrClosed {
			t.Error(glyph, have, e)
		}
		if from, to, e := p.At(glyph); from != 0 || to != 0 || e != api.ErrClosed {
			t.Error(glyph, from, to, e)
		}
	}
}
