package charmap

import (
	"serif/api"
	"serif/wire"
)

// The formats that are read.
const (
	formatBytes    = 0
	formatSegments = 4
	formatTrimmed  = 6
	formatGroups   = 12
)

// kind is what formats differ in: the greatest code point and glyph of a pair that is put, the greatest length, how pairs are counted, how the length is read that follows the format, how the rest is read, and how all behind the format is put.
type kind struct {
	lastCode  int
	lastGlyph int
	room      int
	count     func(l []api.Pair) int
	length    func(r *wire.Reader) int
	read      func(r *wire.Reader) ([]segment, bool)
	put       func(w *wire.Writer, l []api.Pair)
}

func kindOf(format int) (kind, bool) {
	short, long := (*wire.Reader).U16, longLength
	switch format {
	case formatBytes:
		return kind{mostU8, mostU8, mostU16, pairs, short, readBytes, putBytes}, true
	case formatSegments:
		return kind{mostU16 - 1, mostU16, mostU16, pairs, short, readSegments, putSegments}, true
	case formatTrimmed:
		return kind{mostU16, mostU16, mostU16, span, short, readTrimmed, putTrimmed}, true
	case formatGroups:
		return kind{api.LastCode, mostU16, mostU32, pairs, long, readGroups, putGroups}, true
	}
	return kind{}, false
}

func pairs(l []api.Pair) int { return len(l) }

// span is how many code points there are from the first to the last.
func span(l []api.Pair) int {
	if len(l) == 0 {
		return 0
	}
	return l[len(l)-1].Code - l[0].Code + 1
}

// longLength is a length of 4 bytes, behind 2 that are passed over.
func longLength(r *wire.Reader) int {
	r.U16()
	return r.U32()
}

// byteCodes is how many code points a subtable of format 0 has, bytesLen how many bytes; trimmedLen is how many bytes one of format 6 has ahead of its glyphs, glyphLen how many each of these has.
const (
	byteCodes  = mostU8 + 1
	bytesLen   = 6 + byteCodes
	trimmedLen = 10
	glyphLen   = 2
)

func readBytes(r *wire.Reader) ([]segment, bool) {
	r.U16()
	var glyphs [byteCodes]int
	for code := range glyphs {
		glyphs[code] = r.U8()
	}
	return []segment{listed(0, glyphs[:])}, r.Done() == api.OK
}

func putBytes(w *wire.Writer, l []api.Pair) {
	var glyphs [byteCodes]int
	for _, p := range l {
		glyphs[p.Code] = p.Glyph
	}
	w.U16(bytesLen).U16(0)
	for _, glyph := range glyphs {
		w.U8(glyph)
	}
}

func readTrimmed(r *wire.Reader) ([]segment, bool) {
	r.U16()
	first, n := r.U16(), r.U16()
	glyphs := numbers(r, n)
	return []segment{listed(first, glyphs)}, r.Done() == api.OK && first+n <= mostU16+1
}

func putTrimmed(w *wire.Writer, l []api.Pair) {
	n, first := span(l), 0
	if n > 0 {
		first = l[0].Code
	}
	glyphs := make([]int, n)
	for _, p := range l {
		glyphs[p.Code-first] = p.Glyph
	}
	w.U16(trimmedLen + glyphLen*n).U16(0).U16(first).U16(n)
	for _, glyph := range glyphs {
		w.U16(glyph)
	}
}

// numbers is the next n numbers of 2 bytes.
func numbers(r *wire.Reader, n int) []int {
	l := make([]int, n)
	for i := range n {
		l[i] = r.U16()
	}
	return l
}
