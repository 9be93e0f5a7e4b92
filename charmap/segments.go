package charmap

import (
	"math/bits"

	"serif/api"
	"serif/wire"
)

// segmentsLen is how many bytes a subtable of format 4 has beside its segments and what follows them; segmentLen is how many a segment has; skipped is how many help to search, and are not looked at; numberLen is how many a number of a segment has.
const (
	segmentsLen = 16
	segmentLen  = 8
	skipped     = 6
	numberLen   = 2
)

// groupsLen is how many bytes a subtable of format 12 has ahead of its groups; groupLen is how many a group has.
const (
	groupsLen = 16
	groupLen  = 12
)

// lastSegment is the code point of the segment that ends all of format 4; there the offset noOffset is as good as 0.
const (
	lastSegment = mostU16
	noOffset    = mostU16
)

// segment is code points from first to last, and which glyph each of them has, be there such a glyph or not.
type segment struct {
	first int
	last  int
	glyph func(code int) int
}

// listed is a segment whose glyphs stand in a list.
func listed(first int, glyphs []int) segment {
	return segment{first, first + len(glyphs) - 1, func(code int) int { return glyphs[code-first] }}
}

// shifted is a segment whose glyphs are its code points and delta more, in 2 bytes.
func shifted(first, last, delta int) segment {
	return segment{first, last, func(code int) int { return (code + delta) & mostU16 }}
}

// rising is a segment whose glyphs rise from the first one's on.
func rising(first, last, glyph int) segment {
	return segment{first, last, func(code int) int { return glyph + code - first }}
}

func readSegments(r *wire.Reader) ([]segment, bool) {
	r.U16()
	twice := r.U16()
	r.Take(skipped)
	n := twice / numberLen
	lasts := numbers(r, n)
	r.U16()
	firsts, deltas := numbers(r, n), numbers(r, n)
	place := r.At()
	offsets := numbers(r, n)
	length := r.At() + r.Left()
	if r.Done() != api.OK || n == 0 || twice%numberLen != 0 || length%numberLen != 0 || lasts[n-1] != lastSegment {
		return nil, false
	}
	var segments []segment
	ahead := -1
	for i := range n {
		// These are told ahead of a segment's glyphs: they bound how many glyphs all segments have together.
		if firsts[i] <= ahead || firsts[i] > lasts[i] {
			return nil, false
		}
		ahead = lasts[i]
		s, ok := readSegment(r, firsts[i], lasts[i], deltas[i], place+numberLen*i, offsets[i])
		if !ok {
			return nil, false
		}
		segments = append(segments, s)
	}
	return segments, true
}

// readSegment is a segment whose glyphs stand that offset behind the place of the offset, if it is not 0.
func readSegment(r *wire.Reader, first, last, delta, place, offset int) (segment, bool) {
	if offset == 0 || offset == noOffset && first == lastSegment {
		return shifted(first, last, delta), true
	}
	n := last - first + 1
	named := r.Sub(place+offset, numberLen*n)
	if offset%numberLen != 0 || named.Done() != api.OK {
		return segment{}, false
	}
	glyphs := numbers(named, n)
	for i, glyph := range glyphs {
		if glyph != 0 {
			glyphs[i] = (glyph + delta) & mostU16
		}
	}
	return listed(first, glyphs), true
}

func putSegments(w *wire.Writer, l []api.Pair) {
	// The last one has no glyph: its delta, of 2 bytes, makes 0 of its code point.
	all := append(runs(l), run{first: lastSegment, last: lastSegment})
	n := len(all)
	w.U16(segmentsLen + segmentLen*n).U16(0).U16(numberLen * n)
	for _, x := range searchNumbers(n) {
		w.U16(x)
	}
	column := func(of func(x run) int) {
		for _, x := range all {
			w.U16(of(x))
		}
	}
	column(func(x run) int { return x.last })
	w.U16(0)
	column(func(x run) int { return x.first })
	column(func(x run) int { return x.glyph - x.first })
	column(func(run) int { return 0 })
}

func readGroups(r *wire.Reader) ([]segment, bool) {
	r.U32()
	n := r.U32()
	if r.Done() != api.OK || r.Left() < groupLen*n {
		return nil, false
	}
	var segments []segment
	ahead := -1
	for range n {
		first, last, glyph := r.U32(), r.U32(), r.U32()
		if first <= ahead || first > last || last > api.LastCode {
			return nil, false
		}
		ahead = last
		segments = append(segments, rising(first, last, glyph))
	}
	return segments, true
}

func putGroups(w *wire.Writer, l []api.Pair) {
	all := runs(l)
	w.U16(0).U32(groupsLen + groupLen*len(all)).U32(0).U32(len(all))
	for _, x := range all {
		w.U32(x.first).U32(x.last).U32(x.glyph)
	}
}

// run is code points that rise by one, as their glyphs do from that one on.
type run struct {
	first int
	last  int
	glyph int
}

// runs is as few runs as can be.
func runs(l []api.Pair) []run {
	var all []run
	for i, p := range l {
		if i > 0 && p == (api.Pair{Code: l[i-1].Code + 1, Glyph: l[i-1].Glyph + 1}) {
			all[len(all)-1].last = p.Code
			continue
		}
		all = append(all, run{first: p.Code, last: p.Code, glyph: p.Glyph})
	}
	return all
}

// searchNumbers is what helps others to search n segments: in bytes, the most that halving goes over evenly; how often it halves; and the rest.
func searchNumbers(n int) [3]int {
	often := bits.Len(uint(n)) - 1
	even := numberLen << often
	return [3]int{even, often, numberLen*n - even}
}
