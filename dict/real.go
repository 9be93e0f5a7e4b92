package dict

import (
	"math/bits"
	"strings"

	"serif/api"
	"serif/wire"
)

// bitsOfHalf is how many bits half a byte has; endHalf is the one behind the last.
const (
	bitsOfHalf = 4
	endHalf    = 15
)

// spelled is what the others say. That of 13 stands in no number's text.
var spelled = [endHalf]string{"0", "1", "2", "3", "4", "5", "6", "7", "8", "9", point, exponent, exponent + minus, "?", minus}

const (
	point    = "."
	exponent = "E"
	minus    = "-"
)

// A number has at most mostDigits digits, and mostPowers behind its exponent; so it has a text of at most mostText bytes.
const (
	mostDigits = 15
	mostPowers = 2
	mostText   = len(minus) + mostDigits + len(point) + len(exponent+minus) + mostPowers
)

const ten = 10

// speller writes down what half bytes say, up to the end.
type speller struct {
	text  string
	ended bool
}

// take takes the next half byte, and tells whether another one may follow.
func (s *speller) take(half int) bool {
	if half == endHalf {
		s.ended = true
		return false
	}
	s.text += spelled[half]
	return len(s.text) <= mostText
}

// readReal is a real number, or false, if its half bytes tell none, or do not end.
func readReal(r *wire.Reader) (int, bool) {
	var s speller
	eachHalf(r, s.take)
	if !s.ended {
		return 0, false
	}
	size, below := strings.CutPrefix(s.text, minus)
	x, ok := valueOf(size)
	if below {
		x = -x
	}
	return x, ok
}

// eachHalf goes over half bytes as long as take tells to: bytes are read whole, also where the last half ends a number.
func eachHalf(r *wire.Reader, take func(half int) bool) {
	for r.Left() > 0 {
		b := r.U8()
		for _, half := range [2]int{b >> bitsOfHalf, b & (1<<bitsOfHalf - 1)} {
			if !take(half) {
				return
			}
		}
	}
}

// valueOf is the value of a number's text without its minus, or false, if it is none, or too large.
func valueOf(text string) (int, bool) {
	number, behind, hasPower := strings.Cut(text, exponent)
	whole, fraction, _ := strings.Cut(number, point)
	digits, ok := digitsOf(whole+fraction, mostDigits)
	if !ok {
		return 0, false
	}
	power := 0
	if hasPower {
		size, below := strings.CutPrefix(behind, minus)
		if power, ok = digitsOf(size, mostPowers); !ok {
			return 0, false
		}
		if below {
			power = -power
		}
	}
	return scaled(digits, power-len(fraction))
}

// digitsOf is the number that 1 to most digits tell, or false, if the text is another one.
func digitsOf(text string, most int) (int, bool) {
	if !within(1, most, len(text)) {
		return 0, false
	}
	x := 0
	for _, c := range text {
		if c < '0' || c > '9' {
			return 0, false
		}
		x = x*ten + int(c-'0')
	}
	return x, true
}

// scaled is the nearest whole number to One16 times digits times ten to that power, or false, if that is more than MaxFixed times One16. Of digits there are mostDigits at most.
func scaled(digits, power int) (int, bool) {
	for range power {
		if digits > api.MaxFixed {
			return 0, false
		}
		digits *= ten
	}
	most := api.MaxFixed
	for places := -power; places > 0 && most < digits; places-- {
		most *= ten
	}
	if digits > most {
		return 0, false
	}
	// Twice the value, so that a half still counts, may have more than 64 bits till it is divided for the first time. The floor of a floor's tenth is that of the tenth.
	high, low := bits.Mul64(uint64(digits), 2*api.One16)
	for range -power {
		low, _ = bits.Div64(high, low, ten)
		high = 0
	}
	return int(low+1) / 2, true
}
