package dict_test

import (
	"bytes"
	"math"
	"math/big"
	"math/rand"
	"regexp"
	"slices"
	"strings"
	"sync"
	"testing"

	"serif/api"
	"serif/dict"
)

const one = 1 << 16

// entry is an entry of whole numbers.
func entry(op int, numbers ...int) api.Entry {
	x := api.Entry{Op: op}
	for _, n := range numbers {
		x.Args = append(x.Args, n*one)
	}
	return x
}

func list[T any](l ...T) []T { return l }

func sameEntry(a, b api.Entry) bool { return a.Op == b.Op && slices.Equal(a.Args, b.Args) }

func same(a, b []api.Entry) bool { return slices.EqualFunc(a, b, sameEntry) }

// parses asks for the entries of bytes.
func parses(t *testing.T, b []byte, want ...api.Entry) {
	t.Helper()
	if l, e := dict.Parse(b); e != api.OK || !same(l, want) {
		t.Errorf("Parse of %v: %v %d, want %v", b[:min(len(b), 100)], l[:min(len(l), 20)], e, want[:min(len(want), 20)])
	}
}

func parsesNot(t *testing.T, b []byte) {
	t.Helper()
	if l, e := dict.Parse(b); len(l) != 0 || e != api.ErrDict {
		t.Errorf("Parse of %v: %v %d, want %d", b[:min(len(b), 100)], l[:min(len(l), 20)], e, api.ErrDict)
	}
}

// puts asks for the bytes of entries, and that they are parsed again.
func puts(t *testing.T, want []byte, l ...api.Entry) {
	t.Helper()
	b, e := dict.Put(l)
	if e != api.OK || !bytes.Equal(b, want) {
		t.Errorf("Put of %v: %v %d, want %v", l[:min(len(l), 20)], b[:min(len(b), 100)], e, want[:min(len(want), 100)])
	}
	parses(t, b, l...)
}

func putsNot(t *testing.T, l ...api.Entry) {
	t.Helper()
	if b, e := dict.Put(l); len(b) != 0 || e != api.ErrArg {
		t.Errorf("Put of %v: %v %d, want %d", l[:min(len(l), 20)], b[:min(len(b), 100)], e, api.ErrArg)
	}
}

// realBytes is the half bytes of a number's text, an E- in one of them, up to the end.
func realBytes(text string) []byte {
	var halves []byte
	for rest := text; rest != ""; {
		if strings.HasPrefix(rest, "E-") {
			halves = append(halves, 12)
			rest = rest[2:]
			continue
		}
		halves = append(halves, byte(strings.IndexByte("0123456789.E???-", rest[0])))
		if halves[len(halves)-1] == 15 {
			halves[len(halves)-1] = 14
		}
		rest = rest[1:]
	}
	return realHalves(append(halves, 15)...)
}

// realHalves is a real number of these half bytes, filled up with the end if they are odd.
func realHalves(halves ...byte) []byte {
	if len(halves)%2 != 0 {
		halves = append(halves, 15)
	}
	b := list[byte](30)
	for i := 0; i < len(halves); i += 2 {
		b = append(b, halves[i]<<4|halves[i+1])
	}
	return b
}

var form = regexp.MustCompile(`^-?([0-9]*)(\.([0-9]*))?(E(-?[0-9]{1,2}))?$`)

// plainReal is the value of a number's text as the chapter has it, in unbounded numbers.
func plainReal(text string) (int, bool) {
	m := form.FindStringSubmatch(text)
	if m == nil || len(m[1]+m[3]) < 1 || len(m[1]+m[3]) > 15 {
		return 0, false
	}
	decimal := "0" + m[1] + "." + m[3] + "0"
	if m[5] != "" {
		decimal += "e" + m[5]
	}
	size, ok := new(big.Rat).SetString(decimal)
	if !ok {
		panic(decimal)
	}
	if size.Cmp(big.NewRat(1<<31, 1)) > 0 {
		return 0, false
	}
	size.Mul(size, big.NewRat(one, 1))
	size.Add(size, big.NewRat(1, 2))
	value := int(new(big.Int).Quo(size.Num(), size.Denom()).Int64())
	if text[0] == '-' {
		value = -value
	}
	return value, true
}

// plainHalves is the text that half bytes behind a 30 tell, and how many bytes they are.
func plainHalves(b []byte) (string, int, bool) {
	text := ""
	for i := range 2 * len(b) {
		half := b[i/2] >> 4
		if i%2 == 1 {
			half = b[i/2] & 15
		}
		switch {
		case half == 15:
			return text, i/2 + 1, true
		case half < 10:
			text += string(rune('0' + half))
		default:
			text += []string{".", "E", "E-", "X", "-"}[half-10]
		}
	}
	return "", 0, false
}

// plainOperand is the operand that bytes begin with, and how many bytes it has; of none 0.
func plainOperand(b []byte) (int, int) {
	need := 1
	switch c := b[0]; {
	case c == 28:
		need = 3
	case c == 29:
		need = 5
	case c >= 247:
		need = 2
	}
	if len(b) < need {
		return 0, 0
	}
	switch c := int(b[0]); {
	case c == 28:
		return int(int8(b[1]))<<8 + int(b[2]), 3
	case c == 29:
		return int(int8(b[1]))<<24 + int(b[2])<<16 + int(b[3])<<8 + int(b[4]), 5
	case c >= 32 && c <= 246:
		return c - 139, 1
	case c >= 247 && c <= 250:
		return 256*(c-247) + int(b[1]) + 108, 2
	case c >= 251 && c <= 254:
		return -256*(c-251) - int(b[1]) - 108, 2
	}
	return 0, 0
}

// plainly is the entries of bytes as the chapter has them.
func plainly(b []byte) ([]api.Entry, bool) {
	var l []api.Entry
	var args []int
	for len(b) > 0 {
		n := 0
		switch {
		case b[0] == 12 && len(b) > 1:
			l, args, n = append(l, api.Entry{Op: 3072 + int(b[1]), Args: args}), nil, 2
		case b[0] <= 21 && b[0] != 12:
			l, args, n = append(l, api.Entry{Op: int(b[0]), Args: args}), nil, 1
		case b[0] == 30:
			text, size, ok := plainHalves(b[1:])
			x, may := plainReal(text)
			if !ok || !may {
				return nil, false
			}
			args, n = append(args, x), 1+size
		case b[0] > 21:
			x := 0
			x, n = plainOperand(b)
			args = append(args, x*one)
		}
		if n == 0 || len(args) > 48 {
			return nil, false
		}
		b = b[n:]
	}
	return l, len(args) == 0
}

// asIsPlain asks that bytes are parsed, or refused, as by the plain reckoning, and tells which.
func asIsPlain(t *testing.T, b []byte) bool {
	t.Helper()
	l, may := plainly(b)
	if may {
		parses(t, b, l...)
	} else {
		parsesNot(t, b)
	}
	return may
}

// realIsPlain asks that a number's text is parsed, or refused, as by the plain reckoning, and tells which.
func realIsPlain(t *testing.T, text string) bool {
	t.Helper()
	return asIsPlain(t, append(realBytes(text), 5))
}

func TestExampleOfDict(t *testing.T) {
	parses(t, list[byte](30, 0xE2, 0xA2, 0x5F, 5), api.Entry{Op: 5, Args: []int{-147456}})
}

// TestParse tells bytes one by one.
func TestParse(t *testing.T) {
	parses(t, nil)
	parses(t, []byte{})
	parses(t, list[byte](0), entry(0))
	parses(t, list[byte](139, 140, 138, 5, 6, 139, 12, 30), entry(5, 0, 1, -1), entry(6), entry(3102, 0))
	parses(t, list[byte](28, 0x80, 0, 28, 0x7F, 0xFF, 1), entry(1, -32768, 32767))
	parses(t, list[byte](29, 0x80, 0, 0, 0, 29, 0x7F, 0xFF, 0xFF, 0xFF, 1), entry(1, -1<<31, 1<<31-1))
	parses(t, list[byte](247, 0, 250, 255, 251, 0, 254, 255, 1), entry(1, 108, 1131, -108, -1131))
	// Entries stay in their order, also where they are there twice.
	parses(t, list[byte](140, 9, 141, 9, 142, 3, 140, 9), entry(9, 1), entry(9, 2), entry(3, 3), entry(9, 1))
	for _, b := range [][]byte{
		{12}, {139}, {139, 139}, {139, 5, 139}, {28, 0}, {28, 0, 0}, {28}, {29}, {29, 0, 0, 0}, {29, 0, 0, 0, 0}, {247}, {247, 0}, {254}, {139, 12},
		{30}, {30, 0x1F}, {30, 5}, {30, 0x15}, {30, 0xFF, 5}, {255, 5}, {31, 5}, {22}, {27, 5}, {5, 255},
	} {
		parsesNot(t, b)
	}
}

// TestOperators: each byte alone, and each behind a 12.
func TestOperators(t *testing.T) {
	for o := range 256 {
		b := byte(o)
		if o <= 21 && o != 12 {
			parses(t, list(b), entry(o))
			parses(t, list(140, b), entry(o, 1))
			parses(t, list(b, b), entry(o), entry(o))
		} else {
			parsesNot(t, list(b))
		}
		parses(t, list(12, b), entry(3072+o))
		parses(t, list(140, 141, 12, b, 0), entry(3072+o, 1, 2), entry(0))
		parsesNot(t, list(12, b, 12))
	}
}

// TestOperands: each first byte, with each next one, and others behind it.
func TestOperands(t *testing.T) {
	for c := 22; c < 256; c++ {
		for d := range 256 {
			asIsPlain(t, list(byte(c), byte(d)))
			asIsPlain(t, list(byte(c), byte(d), 1))
			asIsPlain(t, list(byte(c), 1, byte(d), 1))
			asIsPlain(t, list(byte(c), byte(d), 7, 200, 130, 1))
			asIsPlain(t, list(byte(c), 130, 7, byte(d), 200, 1))
		}
	}
	for c := 32; c <= 246; c++ {
		parses(t, list(byte(c), 1), entry(1, c-139))
	}
	for d := range 256 {
		for c := range 4 {
			parses(t, list(byte(247+c), byte(d), 1), entry(1, 256*c+d+108))
			parses(t, list(byte(251+c), byte(d), 1), entry(1, -256*c-d-108))
		}
		parses(t, list(28, 1, byte(d), 1), entry(1, 256+d))
		parses(t, list(28, byte(d), 3, 1), entry(1, int(int8(d))*256+3))
		parses(t, list(29, byte(d), 0, 0, 9, 1), entry(1, int(int8(d))<<24+9))
		parses(t, list(29, 0, byte(d), 5, 0, 1), entry(1, d<<16+5<<8))
	}
	for _, c := range list[byte](22, 23, 24, 25, 26, 27, 31, 255) {
		for n := range 8 {
			parsesNot(t, append(list(c), bytes.Repeat(list[byte](1), n)...))
			parsesNot(t, append(list(139, c), bytes.Repeat(list[byte](1), n)...))
		}
	}
}

// TestCuts: numbers that do not end, and operands that are left.
func TestCuts(t *testing.T) {
	for _, number := range [][]byte{{100}, {247, 9}, {254, 9}, {28, 9, 9}, {29, 9, 9, 9, 9}, realBytes("1.5"), realBytes("-12E-2"), realBytes("7")} {
		whole := slices.Concat(list[byte](9), number, number, list[byte](5))
		if !asIsPlain(t, whole) {
			t.Error("not to be parsed:", whole)
		}
		for n := 2; n < len(whole); n++ {
			parsesNot(t, whole[:n])
		}
		parses(t, whole[:1], entry(9))
		// What lies in the room behind the end is not there.
		room := append(slices.Clone(whole), 139, 5)
		for n := 2; n < len(whole); n++ {
			parsesNot(t, room[:n])
		}
	}
}

// TestMostArgs: 48 operands, and no more, of each form.
func TestMostArgs(t *testing.T) {
	for _, number := range [][]byte{{139}, {247, 0}, {28, 0, 0}, {29, 0, 0, 0, 0}, realBytes("1")} {
		for n := 40; n < 56; n++ {
			for _, op := range [][]byte{{5}, {12, 5}} {
				b := append(bytes.Repeat(number, n), op...)
				if may := asIsPlain(t, b); may != (n <= 48) {
					t.Error(n, may)
				}
				asIsPlain(t, slices.Concat(b, b, b))
			}
			parsesNot(t, bytes.Repeat(number, n))
		}
		parsesNot(t, append(bytes.Repeat(number, 500), 5))
	}
}

// TestReals tells values.
func TestReals(t *testing.T) {
	for _, c := range []struct {
		text  string
		value int
	}{
		{"0", 0}, {"-0", 0}, {"1", one}, {"-1", -one}, {"0.5", one / 2}, {".5", one / 2}, {"5.", 5 * one}, {"-.5", -one / 2}, {"-5.", -5 * one},
		{"2.25", 147456}, {"10", 10 * one}, {"007", 7 * one}, {"1E2", 100 * one}, {"1E02", 100 * one}, {"1E0", one}, {"1E00", one}, {"1E-0", one},
		{"25E-1", 2*one + one/2}, {"25E-01", 2*one + one/2}, {".25E1", 2*one + one/2}, {"2.5E-1", one / 4}, {"0.001", 66}, {"-0.001", -66},
		{"5.E1", 50 * one}, {"-5.E-1", -one / 2}, {"3.14159265358979", 205887}, {"123456789012345E-10", 809086412}, {"999999999.999999", 1000000000 * one},
		// A half, and the next less: 2^-17 is 7.62939453125E-6.
		{"0.000007629", 0}, {"0.00000763", 1}, {"-0.000007629", 0}, {"-0.00000763", -1},
		{"7.62939453125E-6", 1}, {"7.62939453124999E-6", 0}, {"-7.62939453125E-6", -1}, {"-7.62939453124999E-6", 0},
		{"22.88818359375E-6", 2}, {"-22.88818359375E-6", -2}, {"22.8881835937499E-6", 1}, {"762939453125000E-20", 1}, {"762939453124999E-20", 0},
		{"1.00000762939453", one}, {"1.00000762939454", one + 1}, {"-1.00000762939453", -one}, {"-1.00000762939454", -one - 1},
		// Powers far from 0.
		{"999999999999999E-20", 1}, {"999999999999999E-21", 0}, {"999999999999999E-99", 0}, {".999999999999999E-99", 0}, {"1E-99", 0}, {"-1E-99", 0},
		{"0E99", 0}, {"0.0E99", 0}, {"-0E-99", 0}, {"000000000000000E99", 0}, {"000000000000001E9", 1000000000 * one},
		{".000000000000001E15", one}, {".000000000000001E24", 1000000000 * one},
		// Up to 2^31.
		{"2147483647", 1<<47 - one}, {"2147483647.99999", 1<<47 - 1}, {"2147483648", 1 << 47}, {"-2147483648", -1 << 47}, {"2147483648.00000", 1 << 47},
		{"2.147483648E9", 1 << 47}, {".2147483648E10", 1 << 47}, {"21474836.48E2", 1 << 47}, {"214748364800000E-5", 1 << 47}, {"000002147483648", 1 << 47}, {"2E9", 2000000000 * one},
	} {
		parses(t, append(realBytes(c.text), 5), api.Entry{Op: 5, Args: []int{c.value}})
		if !realIsPlain(t, c.text) {
			t.Error("the plain reckoning refuses", c.text)
		}
	}
}

// TestNoReals: texts that are none, and numbers that are too large.
func TestNoReals(t *testing.T) {
	for _, text := range list(
		"", "-", ".", "-.", "E", "E-", "E1", "-E1", ".E1", "E-1", "--1", "1-", "1-1", "-1-", ".1.", "1..1", "..1", "1..", "1.1.1", "-.-1", ".-1",
		"1E", "1E-", "1E--1", "1E1E1", "1EE1", "1E-E1", "1E1E-1", "1E.1", "1E1.", "1E1-", "1E-1-", "1E100", "1E001", "1E-100", "1E-001", "0E000", "1.1E123",
		"1234567890123456", "0000000000000000", "1.234567890123456", ".1234567890123456", "1234567890123456.", "0000000000000001E0", "-1234567890123456", "1234567890123456E-9", "0.000000000000000",
		"2147483649", "-2147483649", "2147483648.00001", "-2147483648.00001", "2147483648.1", "214748364800001E-5", "2.14748364800001E9", "3E9", "1E10", "-1E10", "9E99", "1E99", "1E19", "1E20",
		"999999999999999", "999999999999999E1", "999999999999999E99", "999999999999999E-5", ".000000000000001E25", ".000000000000001E99", "0000000000001E10", "922337203685478", "18446744073710E2",
	) {
		parsesNot(t, append(realBytes(text), 5))
		if realIsPlain(t, text) {
			t.Error("the plain reckoning takes", text)
		}
	}
	for n := range 40 {
		if may := realIsPlain(t, strings.Repeat("0", n)); may != (n >= 1 && n <= 15) {
			t.Error(n, "digits:", may)
		}
		realIsPlain(t, "1E"+strings.Repeat("0", n))
		realIsPlain(t, "-."+strings.Repeat("3", n)+"E-09")
	}
	parsesNot(t, append(realBytes(strings.Repeat("1", 1<<17)), 5))
}

// TestMinusOfAPower: what counts is the text, in whichever half bytes it is told.
func TestMinusOfAPower(t *testing.T) {
	parses(t, append(realHalves(5, 12, 1, 15), 5), api.Entry{Op: 5, Args: []int{one / 2}})
	parses(t, append(realHalves(5, 11, 14, 1, 15), 5), api.Entry{Op: 5, Args: []int{one / 2}})
	parsesNot(t, append(realHalves(5, 12, 14, 1, 15), 5))
	parsesNot(t, append(realHalves(5, 11, 14, 14, 1, 15), 5))
	parsesNot(t, append(realHalves(14, 14, 1, 15), 5))
}

// TestHalves: all numbers of few half bytes.
func TestHalves(t *testing.T) {
	some := list[byte](0, 1, 9, 10, 11, 12, 13, 14)
	count := 0
	for length := range 6 {
		total := 1
		for range length {
			total *= len(some)
		}
		for i := range total {
			var halves []byte
			for range length {
				halves = append(halves, some[i%len(some)])
				i /= len(some)
			}
			if asIsPlain(t, append(realHalves(append(halves, 15)...), 5)) {
				count++
			}
		}
	}
	if count < 500 {
		t.Error("few that may be:", count)
	}
	for half := range byte(15) {
		asIsPlain(t, append(realHalves(half, 15), 5))
		asIsPlain(t, append(realHalves(1, half, 1, 15), 5))
		asIsPlain(t, append(realHalves(1, 12, half, 15), 5))
	}
	// No text has a half byte 13, wherever it stands.
	for _, halves := range [][]byte{{13}, {13, 1}, {1, 13}, {1, 10, 13, 1}, {14, 13, 1}, {1, 11, 13, 1}, {1, 12, 1, 13}} {
		parsesNot(t, append(realHalves(append(halves, 15)...), 5))
	}
}

// TestEnds: the first 15 ends a number; the half behind it is any, the byte behind it is not its own.
func TestEnds(t *testing.T) {
	for lower := range 256 {
		b := byte(lower)
		parses(t, list(30, 0x12, 0xF0|b&15, 5), entry(5, 12))
		asIsPlain(t, list(30, b, 5))
		asIsPlain(t, list(30, b, 0xF1, 5))
		asIsPlain(t, list(30, 0x1F, b, 5))
		asIsPlain(t, list(30, 0x1B, b, b, 5))
		parsesNot(t, list(30, 0x11, b))
		parsesNot(t, list(30, 0xF0|b&15, 5)) // no text at all
	}
	parses(t, list[byte](30, 0x1F, 30, 0x2F, 30, 0x34, 0xFF, 5), entry(5, 1, 2, 34))
	parses(t, list[byte](30, 0x1F, 0xF1>>4, 30, 0x2F, 5), entry(15, 1), entry(5, 2))
	parsesNot(t, list[byte](30, 0x1F, 0xFF, 5))
}

// TestEachByte puts every other byte into every place.
func TestEachByte(t *testing.T) {
	for _, b := range [][]byte{
		slices.Concat(list[byte](139, 5, 12, 7), realBytes("-2.25E-1"), list[byte](247, 1, 28, 2, 3, 12, 36)),
		slices.Concat(list[byte](29, 1, 2, 3, 4, 254, 9), realBytes("0.5"), realBytes("12"), list[byte](0, 17)),
	} {
		for at := range b {
			for x := range 256 {
				c := slices.Clone(b)
				c[at] = byte(x)
				asIsPlain(t, c)
				asIsPlain(t, append(c, 0xF0, 0, 0, 0, 0, 21))
			}
		}
	}
}

// TestNumbersOfPut: each form on both sides of where the next one begins, and all numbers of two bytes and less.
func TestNumbersOfPut(t *testing.T) {
	for _, c := range []struct {
		number int
		want   []byte
	}{
		{0, []byte{139}}, {1, []byte{140}}, {-1, []byte{138}}, {107, []byte{246}}, {-107, []byte{32}},
		{108, []byte{247, 0}}, {363, []byte{247, 255}}, {364, []byte{248, 0}}, {1131, []byte{250, 255}},
		{-108, []byte{251, 0}}, {-363, []byte{251, 255}}, {-364, []byte{252, 0}}, {-1131, []byte{254, 255}},
		{1132, []byte{28, 4, 0x6C}}, {-1132, []byte{28, 0xFB, 0x94}}, {32767, []byte{28, 0x7F, 0xFF}}, {-32768, []byte{28, 0x80, 0}},
		{32768, []byte{29, 0, 0, 0x80, 0}}, {-32769, []byte{29, 0xFF, 0xFF, 0x7F, 0xFF}}, {65536, []byte{29, 0, 1, 0, 0}},
		{1<<31 - 1, []byte{29, 0x7F, 0xFF, 0xFF, 0xFF}}, {-1 << 31, []byte{29, 0x80, 0, 0, 0}}, {0x01020304, []byte{29, 1, 2, 3, 4}},
	} {
		puts(t, append(slices.Clone(c.want), 5), entry(5, c.number))
		puts(t, append(slices.Clone(c.want), 12, 5), entry(3077, c.number))
	}
	for number := -33000; number <= 33000; number++ {
		b, e := dict.Put(list(entry(7, number)))
		if e != api.OK || len(b) != 1+shortest(number) {
			t.Fatal(number, b, e)
		}
		parses(t, b, entry(7, number))
	}
}

// shortest is how many bytes a whole number has at least.
func shortest(number int) int {
	switch size := max(number, -number); {
	case size <= 107:
		return 1
	case size <= 1131:
		return 2
	case number >= -32768 && number <= 32767:
		return 3
	}
	return 5
}

// TestOperatorsOfPut: those that there are, and all others near them, and far away.
func TestOperatorsOfPut(t *testing.T) {
	puts(t, nil)
	puts(t, nil, []api.Entry{}...)
	for op := -300; op < 4000; op++ {
		switch {
		case op >= 0 && op <= 21 && op != 12:
			puts(t, list(byte(op)), entry(op))
			puts(t, list(140, byte(op), 141, byte(op)), entry(op, 1), entry(op, 2))
		case op >= 3072 && op <= 3327:
			puts(t, list(12, byte(op-3072)), entry(op))
			puts(t, list(140, 12, byte(op-3072), 11), entry(op, 1), entry(11))
		default:
			putsNot(t, entry(op))
			putsNot(t, entry(5, 1), entry(op, 1))
			putsNot(t, entry(op, 1), entry(5, 1))
		}
	}
	for _, op := range list(1<<16+5, 1<<32, 1<<32+5, -1<<32, 3072<<8, math.MaxInt, math.MinInt, math.MinInt+5) {
		putsNot(t, entry(op))
	}
}

// TestOperandsOfPut: whole numbers in range alone, and 48 of them at most.
func TestOperandsOfPut(t *testing.T) {
	for _, arg := range list(1, -1, one-1, one+1, -one+1, -one-1, one/2, 256, -one/2, 1<<47, 1<<47-1, 1<<47+one, -1<<47-one, -1<<47-1, -1<<47+1, 1<<48, 1<<62, math.MaxInt, math.MinInt, math.MinInt+1) {
		putsNot(t, api.Entry{Op: 5, Args: list(arg)})
		putsNot(t, entry(5, 1), api.Entry{Op: 5, Args: list(one, arg)}, entry(6))
		putsNot(t, api.Entry{Op: 5, Args: list(arg, one)})
	}
	for n := range 60 {
		x := entry(9, make([]int, n)...)
		if n <= 48 {
			puts(t, append(bytes.Repeat(list[byte](139), n), 9), x)
			long := entry(9, slices.Repeat(list(1<<31-1), n)...)
			puts(t, slices.Concat(bytes.Repeat(list[byte](29, 0x7F, 255, 255, 255), n), list[byte](9, 9)), long, entry(9))
		} else {
			putsNot(t, x)
			putsNot(t, entry(1), x, entry(1))
		}
	}
}

// TestPutAll: what is put has no bound of its own.
func TestPutAll(t *testing.T) {
	l := slices.Repeat(list(entry(3100, 1<<30, 5, -200, 3000), entry(7)), 100000)
	puts(t, bytes.Repeat(list[byte](29, 0x40, 0, 0, 0, 144, 251, 92, 28, 0x0B, 0xB8, 12, 28, 7), 100000), l...)
}

func TestGet(t *testing.T) {
	l := list(entry(5, 1, 2), entry(6), entry(3072, 7), entry(5, 3), entry(-4, 9), entry(1<<40, 8), api.Entry{Op: 7, Args: []int{1, -1, math.MaxInt}})
	for _, c := range []struct {
		op   int
		want []int
		has  bool
	}{
		{5, list(3 * one), true}, {6, nil, true}, {3072, list(7 * one), true}, {-4, list(9 * one), true}, {1 << 40, list(8 * one), true}, {7, list(1, -1, math.MaxInt), true},
		{0, nil, false}, {12, nil, false}, {4, nil, false}, {-5, nil, false}, {3073, nil, false}, {math.MaxInt, nil, false}, {1<<40 + 5, nil, false}, {5 - 1<<32, nil, false},
	} {
		if args, has := dict.Get(l, c.op); has != c.has || !slices.Equal(args, c.want) {
			t.Error(c, args, has)
		}
		if args, has := dict.Get(nil, c.op); has || len(args) != 0 {
			t.Error("of none:", c, args, has)
		}
	}
	// The last one counts, also if it has fewer operands.
	if args, has := dict.Get(list(entry(5, 1, 2), entry(5)), 5); !has || len(args) != 0 {
		t.Error(args, has)
	}
}

func TestNumber(t *testing.T) {
	arg := func(op, x int) api.Entry { return api.Entry{Op: op, Args: list(x)} }
	l := list(entry(1, 1), entry(1, 2), entry(2), entry(3, 1, 2), arg(4, one+1), arg(5, one/2), arg(6, -1), entry(7, -3), entry(8, 0),
		entry(9, 1), entry(9), entry(10), entry(10, 4), arg(11, 1<<62), arg(12, math.MinInt), arg(13, math.MaxInt), arg(14, -one/2), entry(-9, 6), arg(15, 1), entry(15, 5), entry(16, 5), arg(16, 1))
	for _, c := range []struct {
		op, want int
		e        api.Errno
	}{
		{1, 2, api.OK}, {2, 0, api.ErrDict}, {3, 0, api.ErrDict}, {4, 0, api.ErrDict}, {5, 0, api.ErrDict}, {6, 0, api.ErrDict}, {7, -3, api.OK}, {8, 0, api.OK},
		{9, 0, api.ErrDict}, {10, 4, api.OK}, {11, 1 << 46, api.OK}, {12, -1 << 47, api.OK}, {13, 0, api.ErrDict}, {14, 0, api.ErrDict}, {-9, 6, api.OK}, {15, 5, api.OK}, {16, 0, api.ErrDict},
	} {
		for _, other := range list(0, 77, -1, math.MaxInt) {
			if x, e := dict.Number(l, c.op, other); x != c.want || e != c.e {
				t.Error(c, other, x, e)
			}
			for _, op := range list(0, 17, -1, 3072, math.MinInt) {
				if x, e := dict.Number(l, op, other); x != other || e != api.OK {
					t.Error(op, other, x, e)
				}
				if x, e := dict.Number(nil, op, other); x != other || e != api.OK {
					t.Error("of none:", op, other, x, e)
				}
			}
		}
	}
}

// fill changes a list, and the room behind it.
func fill[T any](l []T, x T) {
	l = l[:cap(l)]
	for i := range l {
		l[i] = x
	}
}

// TestMemory changes what was handed in, and what was answered, its spare room too.
func TestMemory(t *testing.T) {
	want := list(entry(5, 1, 2, 3), entry(6), entry(7, 4), entry(5, 5, 6, 7, 8, 9))
	b, _ := dict.Put(want)
	room := append(slices.Clone(b), 139, 139)
	was := slices.Clone(room)
	first, _ := dict.Parse(room[:len(b)])
	second, _ := dict.Parse(room[:len(b)])
	for i := range first {
		fill(first[i].Args, -7)
		for j := i + 1; j < len(first); j++ {
			if !sameEntry(first[j], want[j]) {
				t.Error("entries share something", i, j)
			}
		}
	}
	fill(first, entry(-1))
	if !bytes.Equal(room, was) {
		t.Error("bytes are changed")
	}
	fill(room, 0xAA)
	if !same(second, want) {
		t.Error("keeps", second)
	}

	args := append(list(one, 2*one), 3*one, 4*one)
	l := append(list(api.Entry{Op: 5, Args: args[:2]}, api.Entry{Op: 6, Args: args[1:3]}), entry(7))[:2]
	got, _ := dict.Get(l, 6)
	again, _ := dict.Get(l, 6)
	fill(got, -7)
	put, _ := dict.Put(l)
	puts(t, put, l...)
	fill(put, 0xAA)
	if !slices.Equal(args, list(one, 2*one, 3*one, 4*one)) || l[:3][2].Op != 7 || l[0].Op != 5 || l[1].Op != 6 {
		t.Error("changes what is handed in", l, args)
	}
	fill(args, 9)
	if !slices.Equal(again, list(2*one, 3*one)) {
		t.Error("keeps", again)
	}
}

// TestAtOnce parses and puts from several sides.
func TestAtOnce(t *testing.T) {
	var all sync.WaitGroup
	for side := range 8 {
		all.Go(func() {
			for i := range 200 {
				b := slices.Concat(realBytes("-1.5E1"), list[byte](28, byte(side), byte(i), 5))
				parses(t, b, api.Entry{Op: 5, Args: list(-15*one, (side<<8+i)*one)})
			}
		})
	}
	all.Wait()
}

// drawnText is a number's text, or nearly one.
func drawnText(draw *rand.Rand) string {
	digits := func(n int) string {
		text := ""
		for range n {
			text += string(rune('0' + draw.Intn(10)))
		}
		return text
	}
	text := list("", "-")[draw.Intn(2)]
	whole := draw.Intn(11)
	text += digits(whole)
	if draw.Intn(3) > 0 {
		text += "." + digits(draw.Intn(17-whole))
	}
	if draw.Intn(2) == 0 {
		text += list("E", "E-")[draw.Intn(2)] + list("", "0", "1")[draw.Intn(3)] + digits(draw.Intn(3))
	}
	return text
}

// TestDrawnReals draws texts, and numbers near where they are rounded.
func TestDrawnReals(t *testing.T) {
	draw := rand.New(rand.NewSource(41))
	count := map[bool]int{}
	for range 40000 {
		count[realIsPlain(t, drawnText(draw))]++
	}
	if count[true] < 5000 || count[false] < 5000 {
		t.Error("not of all kinds:", count)
	}
	for range 5000 {
		// An odd number of halves of one's 65536th part, told by 15 digits, and the next more, and less.
		half := new(big.Float).SetInt64(2*draw.Int63n(1<<draw.Intn(40)) + 1)
		half.Quo(half, big.NewFloat(2*one))
		text := strings.TrimLeft(half.Text('f', 40), "0")
		text = text[:min(len(text), 16)]
		realIsPlain(t, text)
		last := len(text) - 1
		if text[last] != '9' && text[last] != '.' {
			realIsPlain(t, text[:last]+string(rune(text[last]+1)))
		}
		if text[last] != '0' && text[last] != '.' {
			realIsPlain(t, text[:last]+string(rune(text[last]-1)))
		}
	}
}

// drawnEntry is an entry that can be put.
func drawnEntry(draw *rand.Rand) api.Entry {
	x := entry(draw.Intn(22))
	if x.Op == 12 || draw.Intn(3) == 0 {
		x.Op = 3072 + draw.Intn(256)
	}
	for range draw.Intn(1 + draw.Intn(49)) {
		size := draw.Intn(1 << (1 + draw.Intn(31)))
		x.Args = append(x.Args, list(size, -size, -size-1)[draw.Intn(3)]*one)
	}
	return x
}

// TestDrawnEntries draws entries, puts and parses them.
func TestDrawnEntries(t *testing.T) {
	draw := rand.New(rand.NewSource(42))
	for range 3000 {
		var l []api.Entry
		size := 0
		for range draw.Intn(12) {
			x := drawnEntry(draw)
			l = append(l, x)
			size += 1 + x.Op/3072
			for _, arg := range x.Args {
				size += shortest(arg / one)
			}
		}
		b, e := dict.Put(l)
		if e != api.OK || len(b) != size {
			t.Fatal(l, len(b), size, e)
		}
		parses(t, b, l...)
		asIsPlain(t, b)
	}
}

// TestDrawnBytes: whatever the bytes, they are parsed, or refused.
func TestDrawnBytes(t *testing.T) {
	draw := rand.New(rand.NewSource(43))
	count := map[bool]int{}
	for range 40000 {
		var b []byte
		for range draw.Intn(6) {
			for range draw.Intn(4) {
				if draw.Intn(2) == 0 {
					b = append(b, realBytes(drawnText(draw))...)
				}
				b = append(b, byte(draw.Intn(256)))
			}
			b = append(b, byte(draw.Intn(23)))
		}
		count[asIsPlain(t, b)]++
	}
	if count[true] < 5000 || count[false] < 5000 {
		t.Error("not of all kinds:", count)
	}
	for range 40000 {
		b := make([]byte, draw.Intn(9))
		draw.Read(b)
		asIsPlain(t, append(b, 3))
	}
}
