package type2

import (
	"serif/api"
	"serif/wire"
)

// First bytes of numbers. From leastByte to mostPlainByte they are the number, counted from zeroByte; from aboveByte on, and from belowByte on, its upper part, and another byte follows; the others tell what follows.
const (
	shortByte     = 28
	leastByte     = 32
	zeroByte      = 139
	mostPlainByte = 246
	aboveByte     = 247
	belowByte     = 251
	lastTwoByte   = 254
)

// leastTwo is the least size of a number of two bytes.
const leastTwo = mostPlainByte - zeroByte + 1

// An operator of two bytes begins with escape; then its number is escaped, and the second byte.
const (
	escape     = 12
	escaped    = escape << bitsOfByte
	bitsOfByte = 8
)

// tokenLen is how many bytes a token has at most.
const tokenLen = 5

// token is a number, or an operator.
type token struct {
	isNumber bool
	number   int
	operator int
}

// place is where a charstring is gone through.
type place struct {
	code []byte
	at   int
}

func (p *place) left() int { return len(p.code) - p.at }

// skip moves behind n bytes, if they are there.
func (p *place) skip(n int) api.Errno {
	if n > p.left() {
		return api.ErrChar
	}
	p.at += n
	return api.OK
}

// next moves behind the next token. The reader gets so few bytes since it copies them, and a charstring may be long, and gone through often.
func (p *place) next() (token, api.Errno) {
	r := wire.New(p.code[p.at : p.at+min(p.left(), tokenLen)])
	t := read(r)
	if r.Done() != api.OK {
		return token{}, api.ErrChar
	}
	return t, p.skip(r.At())
}

// read is the next token of a reader, which is bad behind it, if its bytes end too soon.
func read(r *wire.Reader) token {
	first := r.U8()
	switch {
	case first == shortByte:
		return whole(r.I16())
	case first == escape:
		return token{operator: escaped + r.U8()}
	case first < leastByte:
		return token{operator: first}
	case first <= mostPlainByte:
		return whole(first - zeroByte)
	case first < belowByte:
		return whole(leastTwo + (first-aboveByte)<<bitsOfByte + r.U8())
	case first <= lastTwoByte:
		return whole(-leastTwo - (first-belowByte)<<bitsOfByte - r.U8())
	}
	return token{isNumber: true, number: int(int32(r.U32()))}
}

// whole is a whole number as a token.
func whole(x int) token { return token{isNumber: true, number: x * api.One16} }
