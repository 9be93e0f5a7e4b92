package compose_test

import (
	"bytes"
	"math"
	"math/rand"
	"slices"
	"testing"

	"serif/affine"
	"serif/api"
	"serif/compose"
)

// twos is numbers of 2 bytes, one behind the other.
func twos(l ...int) []byte {
	var b []byte
	for _, x := range l {
		b = append(b, byte(x>>8), byte(x))
	}
	return b
}

func two(b []byte, at int) int { return int(b[at])<<8 | int(b[at+1]) }

// list is numbers one behind the other.
func list[T any](l ...T) []T { return l }

// raw is a composite glyph's bytes, with these behind its box; what is any is not 0.
func raw(parts ...[]byte) []byte {
	b := append(twos(-3), 0x81, 0x82, 0x83, 0x84, 0x85, 0x86, 0x87, 0x88)
	return append(b, slices.Concat(parts...)...)
}

// encoded is what Encode puts ahead of parts, and these.
func encoded(parts ...[]byte) []byte {
	return append(append(twos(-1), make([]byte, 8)...), slices.Concat(parts...)...)
}

// matched, stepped and turned are parts of each kind.
func matched(glyph, parent, child int) api.Part {
	return api.Part{Glyph: glyph, M: affine.One(), Matched: true, Parent: parent, Child: child}
}

func stepped(glyph, dx, dy int) api.Part {
	return api.Part{Glyph: glyph, M: affine.One(), DX: dx, DY: dy}
}

func turned(glyph, dx, dy int) api.Part {
	return api.Part{Glyph: glyph, M: affine.One(), DX: dx, DY: dy, Turned: true}
}

// behind is a part with another matrix.
func behind(p api.Part, xx, xy, yx, yy int) api.Part {
	p.M = api.Matrix{XX: xx, XY: xy, YX: yx, YY: yy}
	return p
}

// decodePlainly is what the chapter says of bytes, looked at from the first one on.
func decodePlainly(b []byte) ([]api.Part, api.Errno) {
	if len(b) < 10 || b[0] < 128 {
		return nil, api.ErrGlyf
	}
	var l []api.Part
	at := 10
	for {
		p, size, ok := partPlainly(b[at:])
		if !ok {
			return nil, api.ErrGlyf
		}
		l = append(l, p)
		follows := two(b, at)/32%2 == 1
		at += size
		if !follows {
			return l, api.OK
		}
		if len(l) == 64 {
			return nil, api.ErrParts
		}
	}
}

// partPlainly is the part that bytes begin with, and how many it has.
func partPlainly(b []byte) (api.Part, int, bool) {
	if len(b) < 4 {
		return api.Part{}, 0, false
	}
	bit := func(n int) int { return two(b, 0) >> n % 2 }
	numbers := bit(3) + 2*bit(6) + 4*bit(7)
	width := 1 + bit(0)
	size := 4 + 2*width + 2*numbers
	if bit(3)+bit(6)+bit(7) > 1 || len(b) < size {
		return api.Part{}, 0, false
	}
	var x, y int
	if width == 1 {
		x, y = int(b[4]), int(b[5])
	} else {
		x, y = two(b, 4), two(b, 6)
	}
	m := affine.One()
	number := func(i int) int { return int(int16(two(b, 4+2*width+2*i))) }
	switch numbers {
	case 1:
		m = api.Matrix{XX: number(0), YY: number(0)}
	case 2:
		m = api.Matrix{XX: number(0), YY: number(1)}
	case 4:
		m = api.Matrix{XX: number(0), XY: number(1), YX: number(2), YY: number(3)}
	}
	if bit(1) == 0 {
		return api.Part{Glyph: two(b, 2), M: m, Matched: true, Parent: x, Child: y}, size, true
	}
	if half := 1 << (8*width - 1); x >= half {
		x -= 2 * half
	}
	if half := 1 << (8*width - 1); y >= half {
		y -= 2 * half
	}
	return api.Part{Glyph: two(b, 2), M: m, DX: x, DY: y, Turned: bit(11) == 1 && bit(12) == 0}, size, true
}

// encodePlainly is the bytes of parts that may be.
func encodePlainly(l []api.Part) []byte {
	b := encoded()
	for i, p := range l {
		x, y, low, high, flags := p.DX, p.DY, -128, 127, 2
		if p.Matched {
			x, y, low, high, flags = p.Parent, p.Child, 0, 255, 0
		}
		if p.Turned {
			flags += 2048
		}
		if !p.Turned && !p.Matched {
			flags += 4096
		}
		if i+1 < len(l) {
			flags += 32
		}
		wide := x < low || x > high || y < low || y > high
		if wide {
			flags++
		}
		m := p.M
		var numbers []int
		switch {
		case m.XX == 16384 && m.XY == 0 && m.YX == 0 && m.YY == 16384:
		case m.XY == 0 && m.YX == 0 && m.XX == m.YY:
			flags, numbers = flags+8, list(m.XX)
		case m.XY == 0 && m.YX == 0:
			flags, numbers = flags+64, list(m.XX, m.YY)
		default:
			flags, numbers = flags+128, list(m.XX, m.XY, m.YX, m.YY)
		}
		b = append(b, twos(flags, p.Glyph)...)
		if wide {
			b = append(b, twos(x, y)...)
		} else {
			b = append(b, byte(x), byte(y))
		}
		b = append(b, twos(numbers...)...)
	}
	return b
}

// decodesTo asks for parts.
func decodesTo(t *testing.T, b []byte, want []api.Part) {
	t.Helper()
	l, e := compose.Decode(b)
	if e != api.OK || !slices.Equal(l, want) {
		t.Errorf("Decode of %v: %+v %d, want %+v", b, l, e, want)
	}
	for _, p := range l {
		if !compose.May(p) {
			t.Errorf("Decode of %v: %+v may not be", b, p)
		}
	}
}

// refuses asks for an error, and nothing beside it.
func refuses(t *testing.T, b []byte, want api.Errno) {
	t.Helper()
	if l, e := compose.Decode(b); e != want || len(l) != 0 {
		t.Errorf("Decode of %v: %+v %d, want %d", b[:min(len(b), 2000)], l, e, want)
	}
}

// asIsPlain asks that bytes are decoded, or refused, as by the plain reckoning, and tells how.
func asIsPlain(t *testing.T, b []byte) api.Errno {
	t.Helper()
	l, e := decodePlainly(b)
	if e == api.OK {
		decodesTo(t, b, l)
	} else {
		refuses(t, b, e)
	}
	return e
}

// encodesTo asks for bytes, and that they are decoded again, whatever follows.
func encodesTo(t *testing.T, l []api.Part, want []byte) {
	t.Helper()
	b, e := compose.Encode(l)
	if e != api.OK || !bytes.Equal(b, want) {
		t.Errorf("Encode of %+v: %v %d, want %v", l, b, e, want)
	}
	decodesTo(t, b, l)
	decodesTo(t, append(b, 0xFF, 0, 1, 2, 3, 4, 5, 6, 7, 8), l)
	asIsPlain(t, b)
}

func encodesNot(t *testing.T, l []api.Part, want api.Errno) {
	t.Helper()
	if b, e := compose.Encode(l); e != want || len(b) != 0 {
		t.Errorf("Encode of %+v: %v %d, want %d", l[:min(len(l), 70)], b, e, want)
	}
}

// row is n parts that are other ones.
func row(n int) []api.Part {
	var l []api.Part
	for i := range n {
		l = append(l, stepped(i, i-30, 3*i))
	}
	return l
}

// longest is n parts that have as many bytes as a part can have.
func longest(n int) []api.Part {
	var l []api.Part
	for i := range n {
		l = append(l, behind(matched(65535-i, 65535-i, 256+i), i, -1, 1, -i))
	}
	return l
}

// samples is parts that may be.
func samples() map[string][]api.Part {
	return map[string][]api.Part{
		"plain":         {stepped(3, 10, -20)},
		"of each kind":  {stepped(1, 2, 3), turned(4, 5, 6), matched(7, 8, 9)},
		"of each width": {stepped(1, 127, -128), stepped(1, 128, 0), stepped(1, 0, -129), matched(1, 255, 0), matched(1, 0, 256), turned(1, 300, 1)},
		"of each form":  {stepped(1, 2, 3), behind(stepped(1, 2, 3), 5, 0, 0, 5), behind(turned(1, 2, 3), 5, 0, 0, 6), behind(matched(1, 2, 3), 5, 6, 7, 8)},
		"most":          {behind(stepped(65535, 32767, -32768), -32768, 32767, 32767, -32768), behind(matched(65535, 65535, 65535), 32767, 0, 0, 32767)},
		"nothing":       {behind(stepped(0, 0, 0), 0, 0, 0, 0), behind(matched(0, 0, 0), 0, 0, 0, 0)},
		"64":            row(64),
		"64, longest":   longest(64),
	}
}

func TestExampleOfCompose(t *testing.T) {
	l := list(compose.Plain(3, 10, -20))
	want := append(encoded(), 0x10, 0x02, 0, 3, 10, 0xEC)
	encodesTo(t, l, want)
	if len(want) != 16 {
		t.Error(len(want))
	}
}

func TestPlain(t *testing.T) {
	for _, c := range [][3]int{{0, 0, 0}, {3, 10, -20}, {65535, 32767, -32768}, {-1, 1 << 15, 1 << 40}, {math.MinInt, math.MaxInt, math.MinInt}} {
		p := compose.Plain(c[0], c[1], c[2])
		if p != (api.Part{Glyph: c[0], M: api.Matrix{XX: 16384, YY: 16384}, DX: c[1], DY: c[2]}) {
			t.Error(c, p)
		}
	}
}

// TestDecodeInFull tells what becomes of flags, one by one.
func TestDecodeInFull(t *testing.T) {
	for name, c := range map[string]struct {
		b    []byte
		want []api.Part
	}{
		"points of 1 byte":       {raw(list[byte](0, 0, 1, 2, 200, 3)), list(matched(258, 200, 3))},
		"points of 2 bytes":      {raw(twos(1, 258, 65534, 3)), list(matched(258, 65534, 3))},
		"a step of 1 byte":       {raw(list[byte](0, 2, 1, 2, 200, 3)), list(stepped(258, -56, 3))},
		"a step of 2 bytes":      {raw(twos(3, 258, 65534, 3)), list(stepped(258, -2, 3))},
		"turned":                 {raw(list[byte](8, 2, 1, 2, 3, 4)), list(turned(258, 3, 4))},
		"not turned":             {raw(list[byte](16, 2, 1, 2, 3, 4)), list(stepped(258, 3, 4))},
		"both, so not turned":    {raw(list[byte](24, 2, 1, 2, 3, 4)), list(stepped(258, 3, 4))},
		"points are not turned":  {raw(list[byte](8, 0, 1, 2, 3, 4)), list(matched(258, 3, 4))},
		"points, not turned":     {raw(list[byte](16, 0, 1, 2, 3, 4)), list(matched(258, 3, 4))},
		"one number":             {raw(list[byte](0, 8+2, 0, 1, 3, 4), twos(-5)), list(behind(stepped(1, 3, 4), -5, 0, 0, -5))},
		"two numbers":            {raw(list[byte](0, 64+2, 0, 1, 3, 4), twos(-5, 6)), list(behind(stepped(1, 3, 4), -5, 0, 0, 6))},
		"four numbers":           {raw(list[byte](0, 128+2, 0, 1, 3, 4), twos(-5, 6, 7, -8)), list(behind(stepped(1, 3, 4), -5, 6, 7, -8))},
		"one number, 1":          {raw(list[byte](0, 8+2, 0, 1, 3, 4), twos(16384)), list(stepped(1, 3, 4))},
		"two numbers, the same":  {raw(list[byte](0, 64, 0, 1, 3, 4), twos(9, 9)), list(behind(matched(1, 3, 4), 9, 0, 0, 9))},
		"four numbers, mostly 0": {raw(list[byte](0, 128, 0, 1, 3, 4), twos(9, 0, 0, 8)), list(behind(matched(1, 3, 4), 9, 0, 0, 8))},
		"another one":            {raw(list[byte](0, 32+8, 0, 1, 3, 4), twos(7), twos(3, 2, 5, -6)), list(behind(matched(1, 3, 4), 7, 0, 0, 7), stepped(2, 5, -6))},
		"bits that are any":      {raw(list[byte](0xE7, 0x16, 0, 1, 3, 4)), list(stepped(1, 3, 4))},
	} {
		l, e := compose.Decode(c.b)
		if e != api.OK || !slices.Equal(l, c.want) {
			t.Error(name, l, e, c.want)
		}
		asIsPlain(t, c.b)
	}
}

// TestEachFlag has a part of all flags there are, alone and ahead of another one.
func TestEachFlag(t *testing.T) {
	count := map[api.Errno]int{}
	for flags := range 1 << 16 {
		b := raw(twos(flags, 0x1234), list[byte](0x85, 0x06, 0x07, 0x88, 0x99, 0x0A, 0x0B, 0x8C, 0x0D, 0x1E, 0, 0, 1, 2, 3, 4, 0, 0, 5, 6))
		count[asIsPlain(t, b)]++
	}
	if count[api.OK] < 1<<14 || count[api.ErrGlyf] < 1<<14 {
		t.Error("not of all kinds:", count)
	}
}

// TestTwoMatrices: at most one of three bits, also where all bytes are there.
func TestTwoMatrices(t *testing.T) {
	for _, bits := range list(8|64, 8|128, 64|128, 8|64|128) {
		for _, others := range list(0, 1, 2, 3, 32, 0x1802) {
			refuses(t, raw(twos(bits|others, 1), make([]byte, 100)), api.ErrGlyf)
			refuses(t, raw(twos(32+1, 1, 2, 3), twos(bits|others, 1), make([]byte, 100)), api.ErrGlyf)
		}
	}
}

// TestCuts: what is cut off is refused; what lies in the room behind the end does not count.
func TestCuts(t *testing.T) {
	for name, l := range samples() {
		b, e := compose.Encode(l)
		if e != api.OK {
			t.Fatal(name, e)
		}
		for n := range b {
			refuses(t, b[:n], api.ErrGlyf)
		}
	}
	refuses(t, nil, api.ErrGlyf)
	refuses(t, list[byte](), api.ErrGlyf)
	refuses(t, raw(), api.ErrGlyf)
	for _, flags := range list(0, 1, 2, 3, 8, 9, 64, 65, 128, 129) {
		b := raw(twos(32|flags, 1), make([]byte, 20))
		for n := range b {
			asIsPlain(t, b[:n])
		}
	}
}

// TestFirstNumber: of a composite glyph it is below 0.
func TestFirstNumber(t *testing.T) {
	rest := raw(twos(3, 1, 2, 3))[2:]
	for _, n := range list(-1, -2, -256, -32768) {
		decodesTo(t, append(twos(n), rest...), list(stepped(1, 2, 3)))
	}
	for _, n := range list(0, 1, 255, 256, 32767) {
		refuses(t, append(twos(n), rest...), api.ErrGlyf)
	}
}

// TestWhatIsAny: the box, and what follows.
func TestWhatIsAny(t *testing.T) {
	for name, l := range samples() {
		b, _ := compose.Encode(l)
		for _, any := range list[byte](0, 1, 0x7F, 0x80, 0xFF) {
			copy(b[2:], bytes.Repeat(list(any), 8))
			decodesTo(t, b, l)
			decodesTo(t, append(b, any), l)
			decodesTo(t, append(b, bytes.Repeat(list(any), 100)...), l)
		}
		if x, e := compose.Decode(append(b, make([]byte, 1<<20)...)); e != api.OK || !slices.Equal(x, l) {
			t.Error(name, e)
		}
	}
}

// TestEachByte puts every other byte into every place.
func TestEachByte(t *testing.T) {
	for _, l := range [][]api.Part{samples()["of each kind"], samples()["of each form"], samples()["most"]} {
		b := encodePlainly(l)
		for at := range b {
			for x := range 256 {
				c := slices.Clone(b)
				c[at] = byte(x)
				asIsPlain(t, c)
				asIsPlain(t, append(c, make([]byte, 1200)...))
			}
		}
	}
}

// TestCountOfParts: up to the limit, and beyond, where the next one is not looked at.
func TestCountOfParts(t *testing.T) {
	for _, all := range [][]api.Part{row(70), longest(70)} {
		for _, n := range list(1, 2, 63, 64) {
			encodesTo(t, all[:n], encodePlainly(all[:n]))
		}
		for _, n := range list(65, 66, 70) {
			b := encodePlainly(all[:n])
			refuses(t, b, api.ErrParts)
			refuses(t, append(b, 0), api.ErrParts)
			encodesNot(t, all[:n], api.ErrParts)
		}
		first := len(encodePlainly(all[:64]))
		b := encodePlainly(all[:65])
		for n := first - 1; n < len(b); n++ {
			want := api.ErrParts
			if n < first {
				want = api.ErrGlyf
			}
			refuses(t, b[:n], want)
		}
		// One behind the limit that is wrong.
		refuses(t, append(b[:first:first], twos(8|64|128, 1, 2, 3, 4, 5, 6, 7, 8)...), api.ErrParts)
		// One at the limit that is wrong, and says that another one follows.
		last := len(encodePlainly(all[:63]))
		b[last+1] |= 8 | 64
		refuses(t, b, api.ErrGlyf)
	}
}

// change is a field, and what it may be of parts of a kind.
type change struct {
	name        string
	field       func(p *api.Part) *int
	least, most int
}

func glyphAndMatrix() []change {
	const low, high = -1 << 15, 1<<15 - 1
	return list(
		change{"Glyph", func(p *api.Part) *int { return &p.Glyph }, 0, 65535},
		change{"XX", func(p *api.Part) *int { return &p.M.XX }, low, high},
		change{"XY", func(p *api.Part) *int { return &p.M.XY }, low, high},
		change{"YX", func(p *api.Part) *int { return &p.M.YX }, low, high},
		change{"YY", func(p *api.Part) *int { return &p.M.YY }, low, high},
	)
}

// changes is of a matched part, or another one: what it has not is 0.
func changes(isMatched bool) []change {
	const low, high = -1 << 15, 1<<15 - 1
	dx, dy := change{"DX", func(p *api.Part) *int { return &p.DX }, low, high}, change{"DY", func(p *api.Part) *int { return &p.DY }, low, high}
	parent, child := change{"Parent", func(p *api.Part) *int { return &p.Parent }, 0, 65535}, change{"Child", func(p *api.Part) *int { return &p.Child }, 0, 65535}
	if isMatched {
		dx.least, dx.most, dy.least, dy.most = 0, 0, 0, 0
	} else {
		parent.most, child.most = 0, 0
	}
	return append(glyphAndMatrix(), dx, dy, parent, child)
}

// mayBe asks that a part may be, and is encoded; mayNotBe that it may not, wherever it stands.
func mayBe(t *testing.T, p api.Part) {
	t.Helper()
	if !compose.May(p) {
		t.Errorf("%+v may be", p)
	}
	for _, l := range [][]api.Part{{p}, {stepped(1, 2, 3), p}, {p, matched(1, 2, 3)}} {
		encodesTo(t, l, encodePlainly(l))
	}
}

func mayNotBe(t *testing.T, p api.Part) {
	t.Helper()
	if compose.May(p) {
		t.Errorf("%+v may not be", p)
	}
	encodesNot(t, list(p), api.ErrArg)
	encodesNot(t, list(stepped(1, 2, 3), p), api.ErrArg)
	encodesNot(t, list(p, matched(1, 2, 3)), api.ErrArg)
	encodesNot(t, append(row(100), p), api.ErrArg)
}

// TestBounds puts each field at its bounds, and beyond them: there also so that its lowest bytes alone would fit.
func TestBounds(t *testing.T) {
	for _, p := range list(stepped(7, 8, 9), turned(7, 8, 9), matched(7, 8, 9), behind(turned(1, 2, 3), 4, 5, 6, 7)) {
		mayBe(t, p)
		for _, c := range changes(p.Matched) {
			for _, x := range list(c.least, min(c.least+1, c.most), max(c.most-1, c.least), c.most) {
				q := p
				*c.field(&q) = x
				mayBe(t, q)
			}
			was := *c.field(&p)
			for _, x := range list(c.least-1, c.most+1, was+1<<16, was-1<<16, was+1<<32, was-1<<32, math.MinInt, math.MaxInt) {
				q := p
				*c.field(&q) = x
				mayNotBe(t, q)
			}
		}
	}
	both := matched(1, 2, 3)
	both.Turned = true
	mayNotBe(t, both)
	mayNotBe(t, api.Part{Matched: true, Turned: true})
	mayBe(t, api.Part{})
	mayBe(t, api.Part{Matched: true})
	mayBe(t, api.Part{Turned: true})
}

// TestWidths: bytes of arguments, on both sides of what fits one.
func TestWidths(t *testing.T) {
	for _, c := range []struct {
		p    api.Part
		want []byte
	}{
		{stepped(1, 127, -128), list[byte](0x10, 0x02, 0, 1, 127, 128)},
		{stepped(1, -128, 127), list[byte](0x10, 0x02, 0, 1, 128, 127)},
		{stepped(1, 128, 0), list[byte](0x10, 0x03, 0, 1, 0, 128, 0, 0)},
		{stepped(1, -129, 0), list[byte](0x10, 0x03, 0, 1, 0xFF, 0x7F, 0, 0)},
		{stepped(1, 0, 128), list[byte](0x10, 0x03, 0, 1, 0, 0, 0, 128)},
		{stepped(1, 5, -129), list[byte](0x10, 0x03, 0, 1, 0, 5, 0xFF, 0x7F)},
		{turned(1, 127, -128), list[byte](0x08, 0x02, 0, 1, 127, 128)},
		{turned(1, -128, 255), list[byte](0x08, 0x03, 0, 1, 0xFF, 0x80, 0, 255)},
		{matched(1, 255, 0), list[byte](0, 0, 0, 1, 255, 0)},
		{matched(1, 0, 255), list[byte](0, 0, 0, 1, 0, 255)},
		{matched(1, 128, 129), list[byte](0, 0, 0, 1, 128, 129)},
		{matched(1, 256, 0), list[byte](0, 1, 0, 1, 1, 0, 0, 0)},
		{matched(1, 3, 256), list[byte](0, 1, 0, 1, 0, 3, 1, 0)},
		{matched(65535, 65535, 0), list[byte](0, 1, 255, 255, 255, 255, 0, 0)},
	} {
		encodesTo(t, list(c.p), encoded(c.want))
	}
}

// TestForms: the bytes of matrices.
func TestForms(t *testing.T) {
	const one = 16384
	for _, c := range []struct {
		xx, xy, yx, yy int
		bits           byte
		numbers        []int
	}{
		{one, 0, 0, one, 0, nil},
		{one - 1, 0, 0, one - 1, 8, list(one - 1)},
		{-one, 0, 0, -one, 8, list(-one)},
		{0, 0, 0, 0, 8, list(0)},
		{one, 0, 0, one - 1, 64, list(one, one-1)},
		{one, 0, 0, -one, 64, list(one, -one)},
		{0, 0, 0, one, 64, list(0, one)},
		{one, 1, 0, one, 128, list(one, 1, 0, one)},
		{one, 0, -1, one, 128, list(one, 0, -1, one)},
		{5, 5, 0, 5, 128, list(5, 5, 0, 5)},
		{0, one, -one, 0, 128, list(0, one, -one, 0)},
		{0, 0, 1, 0, 128, list(0, 0, 1, 0)},
		{-32768, 32767, 1, -1, 128, list(-32768, 32767, 1, -1)},
	} {
		p := behind(matched(1, 2, 3), c.xx, c.xy, c.yx, c.yy)
		encodesTo(t, list(p), encoded(list[byte](0, c.bits, 0, 1, 2, 3), twos(c.numbers...)))
		p = behind(stepped(1, 2, 3), c.xx, c.xy, c.yx, c.yy)
		more := append(list[byte](0x10, c.bits|2|32, 0, 1, 2, 3), twos(c.numbers...)...)
		last := append(list[byte](0x10, c.bits|2, 0, 1, 2, 3), twos(c.numbers...)...)
		encodesTo(t, list(p, p, p), encoded(more, more, last))
	}
}

func TestSamples(t *testing.T) {
	for _, l := range samples() {
		encodesTo(t, l, encodePlainly(l))
	}
}

func TestEncodeErrors(t *testing.T) {
	encodesNot(t, nil, api.ErrArg)
	encodesNot(t, []api.Part{}, api.ErrArg)
	encodesNot(t, row(65), api.ErrParts)
	encodesNot(t, make([]api.Part, 1<<20), api.ErrParts)
	// A part that may not be comes first, also beyond the limit.
	for _, at := range list(0, 1, 63, 64, 65, 199) {
		l := row(200)
		l[at].Parent = 1
		encodesNot(t, l, api.ErrArg)
	}
}

// TestMemory changes what was answered, its spare room too, and what was handed in.
func TestMemory(t *testing.T) {
	want := samples()["of each form"]
	b := encodePlainly(want)
	room := append(slices.Clone(b), 1, 2, 3, 4, 5)
	was := slices.Clone(room)
	l, _ := compose.Decode(room[:len(b)])
	other, _ := compose.Decode(room[:len(b)])
	clear(l[:cap(l)])
	if !bytes.Equal(room, was) || !slices.Equal(other, want) {
		t.Error("shares", room, other)
	}
	clear(room)
	if !slices.Equal(other, want) {
		t.Error("keeps", other)
	}
	for n := range was {
		compose.Decode(was[:n])
	}
	if !bytes.Equal(was, append(slices.Clone(b), 1, 2, 3, 4, 5)) {
		t.Error("changes what is handed in", was)
	}
	handed := append(slices.Clone(want), stepped(9, 9, 9), turned(8, 8, 8))
	before := slices.Clone(handed)
	first, _ := compose.Encode(handed[:len(want)])
	second, _ := compose.Encode(handed[:len(want)])
	clear(first[:cap(first)])
	if !slices.Equal(handed, before) || !bytes.Equal(second, b) {
		t.Error("changes what is handed in", handed, second)
	}
	clear(handed)
	if !bytes.Equal(second, b) {
		t.Error("keeps", second)
	}
}

// drawnPart is a part that may be, its numbers near or far.
func drawnPart(draw *rand.Rand) api.Part {
	number := func(least, most int) int {
		switch draw.Intn(3) {
		case 0:
			return max(least, draw.Intn(300)-150)
		case 1:
			return max(least, draw.Intn(3)-1)
		}
		return least + draw.Intn(most-least+1)
	}
	p := api.Part{Glyph: number(0, 65535), M: affine.One()}
	signed := func() int { return number(-1<<15, 1<<15-1) }
	switch draw.Intn(4) {
	case 0:
		x := signed()
		p = behind(p, x, 0, 0, x)
	case 1:
		p = behind(p, signed(), 0, 0, signed())
	case 2:
		p = behind(p, signed(), signed(), signed(), signed())
	}
	if draw.Intn(3) == 0 {
		p.Matched, p.Parent, p.Child = true, number(0, 65535), number(0, 65535)
	} else {
		p.DX, p.DY, p.Turned = signed(), signed(), draw.Intn(2) == 0
	}
	return p
}

func drawnParts(draw *rand.Rand) []api.Part {
	var l []api.Part
	for range 1 + draw.Intn(1+draw.Intn(64)) {
		l = append(l, drawnPart(draw))
	}
	return l
}

func TestDrawnParts(t *testing.T) {
	draw := rand.New(rand.NewSource(13))
	for range 3000 {
		l := drawnParts(draw)
		encodesTo(t, l, encodePlainly(l))
	}
}

// TestDrawnBytes: whatever the bytes, they are decoded, or refused.
func TestDrawnBytes(t *testing.T) {
	draw := rand.New(rand.NewSource(14))
	count := map[api.Errno]int{}
	for range 20000 {
		l := drawnParts(draw)
		for draw.Intn(5) == 0 && len(l) < 65 {
			l = append(l, drawnParts(draw)...)
		}
		b := encodePlainly(l)
		for range draw.Intn(4) {
			b[draw.Intn(len(b))] ^= byte(1 << draw.Intn(8))
		}
		if draw.Intn(4) == 0 {
			b = b[:draw.Intn(len(b)+1)]
		}
		if draw.Intn(4) == 0 {
			b = append(b, bytes.Repeat(list[byte](0, 32, 0, 0, 0, 0), 64)...) // parts that go on and on
		}
		count[asIsPlain(t, b)]++
	}
	if count[api.OK] < 1000 || count[api.ErrGlyf] < 1000 || count[api.ErrParts] < 500 {
		t.Error("not of all kinds:", count)
	}
	for range 20000 {
		b := make([]byte, draw.Intn(60))
		draw.Read(b)
		if len(b) > 0 {
			b[0] |= 128
		}
		asIsPlain(t, b)
	}
}
