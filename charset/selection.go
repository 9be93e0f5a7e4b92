package charset

import (
	"slices"

	"serif/api"
	"serif/wire"
)

// Formats of selections: of each glyph its number, or of ranges of glyphs.
const (
	ofEach   = 0
	ofRanges = 3
)

// mostFonts is how many fonts a selection is among, at most.
const mostFonts = 1 << 8

// countLen is how many bytes say how many ranges, or glyphs, there are; fontRangeLen is how many a selection's range has.
const (
	countLen     = 2
	fontRangeLen = 2 + 1
)

// Select is which of k fonts each of n glyphs belongs to.
func Select(b []byte, n, k int) ([]int, api.Errno) {
	if !countMay(n) || !fontsMay(k) {
		return nil, api.ErrArg
	}
	// What follows the longest selection need not be copied.
	r := wire.New(b[:min(len(b), selectionLen(n))])
	var numbers []int
	switch r.U8() {
	case ofEach:
		numbers = take(n, r.U8)
	case ofRanges:
		numbers = readRanges(r, n)
	}
	if len(numbers) != n || r.Done() != api.OK || !within(0, k-1, numbers...) {
		return nil, api.ErrCharset
	}
	return numbers, api.OK
}

// PutSelect is the selection of these numbers among k fonts.
func PutSelect(l []int, k, format int) ([]byte, api.Errno) {
	if !countMay(len(l)) || !fontsMay(k) || !within(0, k-1, l...) || format != ofEach && format != ofRanges {
		return nil, api.ErrArg
	}
	w := wire.To(selectionLen(len(l))).U8(format)
	if format == ofRanges {
		putRanges(w, l)
		return w.Done()
	}
	for _, number := range l {
		w.U8(number)
	}
	return w.Done()
}

// fontsMay tells whether a selection may be among so many fonts.
func fontsMay(k int) bool { return within(1, mostFonts, k) }

// selectionLen is how many bytes the selection of n glyphs has at most.
func selectionLen(n int) int { return formatLen + countLen + fontRangeLen*n + countLen }

// take is the next n numbers.
func take(n int, next func() int) []int {
	var numbers []int
	for range n {
		numbers = append(numbers, next())
	}
	return numbers
}

// readRanges is the numbers of n glyphs, or of fewer, if ranges do not rise from 0 to n.
func readRanges(r *wire.Reader, n int) []int {
	count := r.U16()
	if r.U16() != 0 {
		return nil
	}
	var numbers []int
	for range count {
		number := r.U8()
		end := r.U16() // where the next one begins; behind the last one, n
		if end <= len(numbers) || end > n {
			return nil
		}
		numbers = append(numbers, slices.Repeat([]int{number}, end-len(numbers))...)
	}
	return numbers
}

// putRanges puts numbers as ranges.
func putRanges(w *wire.Writer, l []int) {
	same := func(ahead, number int) bool { return number == ahead }
	counts := ranges(l, len(l), same)
	w.U16(len(counts))
	first := 0
	for _, n := range counts {
		w.U16(first).U8(l[first])
		first += n
	}
	w.U16(first)
}
