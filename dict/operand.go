package dict

import (
	"serif/api"
	"serif/wire"
)

// First bytes of operands. From leastByte to mostPlainByte they are the number, counted from zeroByte; from aboveByte on, and from belowByte on, its upper part, and another byte follows; the others tell what follows.
const (
	shortByte     = 28
	longByte      = 29
	realByte      = 30
	leastByte     = 32
	zeroByte      = 139
	mostPlainByte = 246
	aboveByte     = 247
	belowByte     = 251
	lastByte      = 254
)

// A number of one byte is up to mostOne from 0, one of two bytes from leastTwo to mostTwo.
const (
	mostOne  = mostPlainByte - zeroByte
	leastTwo = mostOne + 1
	mostTwo  = mostOne + (belowByte-aboveByte)<<bitsOfByte
)

// Bounds of numbers of 2 and 4 bytes.
const (
	leastI16 = -1 << 15
	mostI16  = 1<<15 - 1
	leastI32 = -1 << 31
	mostI32  = 1<<31 - 1
)

// operandLen is how many bytes an operand that is put has at most.
const operandLen = 5

// readOperand is the operand of that first byte, or false, if it is none. Where bytes end too soon, the reader is bad.
func readOperand(r *wire.Reader, first int) (int, bool) {
	if first == realByte {
		return readReal(r)
	}
	x, ok := readNumber(r, first)
	return x * api.One16, ok
}

// readNumber is the whole number of that first byte, or false, if that is none of a whole number.
func readNumber(r *wire.Reader, first int) (int, bool) {
	switch {
	case first == shortByte:
		return r.I16(), true
	case first == longByte:
		return int(int32(r.U32())), true
	case within(leastByte, mostPlainByte, first):
		return first - zeroByte, true
	case within(aboveByte, belowByte-1, first):
		return leastTwo + (first-aboveByte)<<bitsOfByte + r.U8(), true
	case within(belowByte, lastByte, first):
		return -leastTwo - (first-belowByte)<<bitsOfByte - r.U8(), true
	}
	return 0, false
}

// putNumber puts a whole number as short as can be.
func putNumber(w *wire.Writer, x int) {
	switch {
	case within(-mostOne, mostOne, x):
		w.U8(x + zeroByte)
	case within(leastTwo, mostTwo, x):
		putTwo(w, aboveByte, x)
	case within(-mostTwo, -leastTwo, x):
		putTwo(w, belowByte, -x)
	case within(leastI16, mostI16, x):
		w.U8(shortByte).I16(x)
	default:
		w.U8(longByte).U32(x)
	}
}

// putTwo puts a number's size as two bytes, of which the first counts from that one on.
func putTwo(w *wire.Writer, from, size int) {
	beyond := size - leastTwo
	w.U8(from + beyond>>bitsOfByte).U8(beyond)
}
