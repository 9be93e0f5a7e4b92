package simple

import (
	"slices"

	"serif/api"
	"serif/wire"
)

// Bits of a point's flag, from the lowest one on. A small step is of 1 byte, and the same bit then says that it is not below 0; else the same bit says that there is no step.
const (
	onOutline = 1 << iota
	smallX
	smallY
	repeated
	sameX
	sameY
)

// mostRepeats is how often one flag says that it follows, at most.
const mostRepeats = mostU8

// readFlags is the flags of n points, or of more, if the last one says so.
func readFlags(r *wire.Reader, n int) []int {
	var flags []int
	for len(flags) < n {
		flag, repeats := r.U8(), 0
		if flag&repeated != 0 {
			repeats = r.U8()
		}
		for range 1 + repeats {
			flags = append(flags, flag)
		}
	}
	return flags
}

// putFlags puts flags, those that are the same at once.
func putFlags(w *wire.Writer, flags []int) {
	for len(flags) > 0 {
		flag := flags[0]
		n := slices.IndexFunc(flags, func(other int) bool { return other != flag })
		if n < 0 {
			n = len(flags)
		}
		n = min(n, 1+mostRepeats)
		if n == 1 {
			w.U8(flag)
		} else {
			w.U8(flag | repeated).U8(n - 1)
		}
		flags = flags[n:]
	}
}

// pointKind is the kind of a point that has this flag.
func pointKind(flag int) int {
	if flag&onOutline != 0 {
		return api.PointOn
	}
	return api.PointQuad
}

// flagsOf is the flags of points, for the shortest steps.
func flagsOf(points []api.Point, xs, ys []int) []int {
	var flags []int
	for i, p := range points {
		flag := stepBits(xs[i], smallX, sameX) | stepBits(ys[i], smallY, sameY)
		if p.Kind == api.PointOn {
			flag |= onOutline
		}
		flags = append(flags, flag)
	}
	return flags
}

// stepBits is which of an axis' two bits are set, that a step is as short as may be.
func stepBits(step, small, same int) int {
	switch {
	case step == 0:
		return same
	case 0 < step && step <= mostU8:
		return small | same
	case -mostU8 <= step && step < 0:
		return small
	}
	return 0
}

// carrier brings a number from bytes into its place, or from there into bytes. So steps are read and put alike.
type carrier func(place *int)

// from carries what is read next.
func from(next func() int) carrier {
	return func(place *int) { *place = next() }
}

// into carries into what is written.
func into(put func(x int) *wire.Writer) carrier {
	return func(place *int) { put(*place) }
}

// carrySteps carries the steps of all points that have these flags: those along X, then those along Y. One of 1 byte is handed to one, one of 2 bytes to two.
func carrySteps(flags, xs, ys []int, one, two carrier) {
	carryAlong(flags, xs, smallX, sameX, one, two)
	carryAlong(flags, ys, smallY, sameY, one, two)
}

// carryAlong carries the steps along the axis that has these two bits. Where there is no step, its place stays as it is.
func carryAlong(flags, steps []int, small, same int, one, two carrier) {
	for i, flag := range flags {
		switch {
		case flag&small != 0 && flag&same != 0:
			one(&steps[i])
		case flag&small != 0:
			// Its byte tells how far below 0 it is.
			below := -steps[i]
			one(&below)
			steps[i] = -below
		case flag&same == 0:
			two(&steps[i])
		}
	}
}
