package cff_test

import (
	"bytes"
	"math"
	"math/rand"
	"reflect"
	"slices"
	"sync"
	"testing"

	"serif/api"
	"serif/cff"
	"serif/type2"
)

// few is the beginning of a long list.
func few[T any](l []T) []T { return l[:min(len(l), 80)] }

func same(a, b [][]byte) bool { return slices.EqualFunc(a, b, bytes.Equal) }

func sameProgram(a, b api.Program) bool {
	return bytes.Equal(a.Code, b.Code) && same(a.Global, b.Global) && same(a.Local, b.Local) && a.Default == b.Default && a.Nominal == b.Nominal && slices.Equal(a.Draws, b.Draws)
}

// sameDrawn takes nil and the empty list as the same.
func sameDrawn(a, b api.Drawn) bool {
	return a.Width == b.Width && a.Steps == b.Steps && slices.EqualFunc(a.Outline, b.Outline, slices.Equal[[]api.Point])
}

// noGlyphs is numbers of no glyph of n.
func noGlyphs(n int) []int {
	return list(-1, n, n+1, -n-1, n+1<<16, 1<<32, -1<<32, math.MinInt, math.MaxInt)
}

// has asks for a glyph's program, and what that draws.
func has(t *testing.T, f *cff.Font, glyph int, want api.Program) {
	t.Helper()
	if p, e := f.Program(glyph, want.Draws); e != api.OK || !sameProgram(p, want) {
		t.Fatalf("Program(%d): %v %d, want %v", glyph, p, e, want)
	}
	drawn, wantE := type2.Run(want)
	if d, e := f.Draw(glyph, want.Draws); e != wantE || !sameDrawn(d, drawn) {
		t.Fatalf("Draw(%d): %v %d, want %v %d", glyph, d, e, drawn, wantE)
	}
}

// hasNot asks that glyphs are refused.
func hasNot(t *testing.T, f *cff.Font, want api.Errno, glyphs ...int) {
	t.Helper()
	for _, glyph := range glyphs {
		if x, e := f.Name(glyph); x != 0 || e != want {
			t.Errorf("Name(%d): %d %d, want %d", glyph, x, e, want)
		}
		if p, e := f.Program(glyph, list(1, 2)); !reflect.DeepEqual(p, api.Program{}) || e != want {
			t.Errorf("Program(%d): %v %d, want %d", glyph, p, e, want)
		}
		if d, e := f.Draw(glyph, list(1, 2)); !reflect.DeepEqual(d, api.Drawn{}) || e != want {
			t.Errorf("Draw(%d): %v %d, want %d", glyph, d, e, want)
		}
	}
}

// is asks that a font is that, in all that is told of it.
func is(t *testing.T, f *cff.Font, want *plain) {
	t.Helper()
	if f.Len() != len(want.codes) || f.Families() != len(want.families) {
		t.Fatalf("Len %d, Families %d, want %d, %d", f.Len(), f.Families(), len(want.codes), len(want.families))
	}
	for glyph := range want.codes {
		if x, e := f.Name(glyph); x != want.names[glyph] || e != api.OK {
			t.Fatalf("Name(%d): %d %d, want %d", glyph, x, e, want.names[glyph])
		}
		has(t, f, glyph, want.program(glyph, list(-3, glyph)))
	}
	hasNot(t, f, api.ErrGlyph, noGlyphs(len(want.codes))...)
}

// loaded asks that bytes are a font.
func loaded(t *testing.T, b []byte) *cff.Font {
	t.Helper()
	f, e := cff.Load(b)
	if f == nil || e != api.OK {
		t.Fatalf("Load of %v: %v %d", few(b), f, e)
	}
	return f
}

func loadsNot(t *testing.T, b []byte) {
	t.Helper()
	if f, e := cff.Load(b); f != nil || e != api.ErrCff {
		t.Errorf("Load of %v: %v %d, want %d", few(b), f, e, api.ErrCff)
	}
}

// isPlain asks that bytes are loaded, or refused, as by the plain reckoning, and tells which.
func isPlain(t *testing.T, b []byte) bool {
	t.Helper()
	want, wantE := asIsPlain(b)
	f, e := cff.Load(b)
	if e != wantE || (f == nil) != (want == nil) {
		t.Fatalf("Load of %v: %v %d, want %v %d", few(b), f, e, want, wantE)
	}
	if want != nil {
		is(t, f, want)
	}
	return want != nil
}

// may asks that a sheet is a font, as by the plain reckoning; mayNot, that it is refused.
func may(t *testing.T, s sheet) *cff.Font {
	t.Helper()
	b := s.bytes()
	f := loaded(t, b)
	isPlain(t, b)
	return f
}

func mayNot(t *testing.T, s sheet) {
	t.Helper()
	b := s.bytes()
	loadsNot(t, b)
	isPlain(t, b)
}

func TestExample(t *testing.T) {
	b, e := cff.Build(api.CffParts{Codes: list(dash), Families: make([]api.Family, 1), Names: list(0)})
	if e != api.OK {
		t.Fatal(e)
	}
	f := loaded(t, b)
	want := api.Drawn{Outline: list(list(api.Point{Kind: api.PointOn}, api.Point{X: 100 * api.One16, Kind: api.PointOn})), Steps: 6}
	if d, e := f.Draw(0, nil); e != api.OK || !reflect.DeepEqual(d, want) {
		t.Error(d, e)
	}
}

// TestByHand is a table told byte by byte.
func TestByHand(t *testing.T) {
	b := []byte{
		1, 0, 4, 1, // head
		0, 1, 1, 1, 3, 'N', 'o', // names
		0, 1, 1, 1, 8, 182, 15, 187, 17, 143, 194, 18, // top: charset 43, codes 48, private: 4 bytes at 55
		0, 1, 1, 1, 2, 'x', // texts
		0, 1, 1, 1, 2, 11, // global
		99, 98, 97, 96, 95, 94, 93, 92, // nothing
		0, 1, 2, 0, 0, // charset of 2 glyphs, and more
		0, 2, 1, 1, 2, 2, 14, // codes
		149, 20, 239, 21, // private: default 10, nominal 100
	}
	f := loaded(t, b)
	if f.Len() != 2 || f.Families() != 1 {
		t.Fatal(f.Len(), f.Families())
	}
	if x, e := f.Name(1); x != 258 || e != api.OK {
		t.Error(x, e)
	}
	has(t, f, 0, api.Program{Code: list[byte](14), Global: list(list[byte](11)), Default: 10 * api.One16, Nominal: 100 * api.One16, Draws: list(7)})
	has(t, f, 1, api.Program{Global: list(list[byte](11)), Default: 10 * api.One16, Nominal: 100 * api.One16})
	if d, e := f.Draw(0, nil); e != api.OK || d.Width != 10*api.One16 || d.Steps != 1 {
		t.Error(d, e)
	}
	isPlain(t, b)
}

func TestSamples(t *testing.T) {
	for _, s := range samples() {
		may(t, s)
		f := loaded(t, append(s.bytes(), 1, 2, 3, 0, 0, 0))
		want, _ := asIsPlain(s.bytes())
		is(t, f, want)
	}
	f := may(t, oneFamily())
	if d, e := f.Draw(1, nil); e != api.OK || d.Width != -590*api.One16 || len(d.Outline) != 1 || len(d.Outline[0]) != 4 {
		t.Error(d, e)
	}
	if d, e := f.Draw(0, nil); e != api.OK || d.Width != 500*api.One16 {
		t.Error(d, e)
	}
	f = may(t, twoFamilies())
	for glyph, want := range list(300, 300, 10, 0) {
		if d, e := f.Draw(glyph, nil); e != api.OK || d.Width != want*api.One16 {
			t.Error(glyph, d, e)
		}
	}
	if p, e := f.Program(1, nil); e != api.OK || p.Default != 300*api.One16 || p.Nominal != 0 || len(p.Local) != 2 {
		t.Error(p, e)
	}
	if p, e := f.Program(3, nil); e != api.OK || p.Default != 0 || len(p.Local) != 0 || len(p.Global) != 1 {
		t.Error(p, e)
	}
}

// TestFirstByte: 2 has an error of its own, whatever follows.
func TestFirstByte(t *testing.T) {
	for _, s := range samples() {
		b := s.bytes()
		for version := range 256 {
			b[0] = byte(version)
			f, e := cff.Load(b)
			want := api.ErrCff
			switch version {
			case 1:
				want = api.OK
			case 2:
				want = api.ErrCff2
			}
			if e != want || (f != nil) != (version == 1) {
				t.Error(version, f, e)
			}
		}
		b[0] = 2
		for n := 1; n < len(b); n++ {
			if f, e := cff.Load(b[:n]); f != nil || e != api.ErrCff2 {
				t.Error(n, f, e)
			}
		}
	}
	loadsNot(t, nil)
	loadsNot(t, []byte{})
	loadsNot(t, list[byte](1))
	loadsNot(t, list[byte](1, 2))
}

// TestHead: the INDEXes begin where it ends, at 4 at least; its other bytes are any.
func TestHead(t *testing.T) {
	for length := range 256 {
		for _, s := range list(plainSheet(dash, bare), oneFamily()) {
			s.head = append(list(1, byte(length*7), byte(length), byte(length*5)), bytes.Repeat(list[byte](0), max(length-4, 0))...)
			if length >= 4 {
				may(t, s)
			} else {
				mayNot(t, s)
			}
			// One byte more, or less, than is said.
			s.head = append(s.head, 0)
			isPlain(t, s.bytes())
			s.head = s.head[:len(s.head)-2]
			isPlain(t, s.bytes())
		}
	}
	// A head that is not there, as far as it says.
	loadsNot(t, append(list[byte](1, 0, 255, 4), plainSheet(dash).bytes()[4:]...))
	// INDEXes that begin within the head.
	loadsNot(t, append(list[byte](1, 0, 2, 0), plainSheet(dash).bytes()[4:]...))
	loadsNot(t, append(list[byte](1, 0, 3, 4), plainSheet(dash).bytes()[4:]...))
}

// TestFirstIndexes: of names and of top DICTs one each, of texts and of global subroutines any.
func TestFirstIndexes(t *testing.T) {
	few := list(nil, texts(""), texts("a"), texts("a", "bc"), texts("", "", ""), texts("x", "y", "z", "xyz"))
	for _, l := range few {
		s := oneFamily()
		s.names = l
		if len(l) == 1 {
			may(t, s)
		} else {
			mayNot(t, s)
		}
		s = oneFamily()
		s.texts = l
		may(t, s)
		s = oneFamily()
		s.global = l
		f := may(t, s)
		if p, e := f.Program(0, nil); e != api.OK || !same(p.Global, l) {
			t.Error(p, e)
		}
	}
	for n := range 3 {
		s := plainSheet(dash)
		s.tops = slices.Repeat(list(entry(opCodes, 0)), n)
		if n == 0 {
			may(t, s)
		} else {
			mayNot(t, s)
		}
	}
	// No top DICT, or an empty one.
	loadsNot(t, slices.Concat(list[byte](1, 0, 4, 4), indexOf(texts("F")...), indexOf(), indexOf(), indexOf(), indexOf(dash)))
	s := plainSheet(dash)
	s.top = func(places) []byte { return nil }
	mayNot(t, s)
	// No DICT: an operand without an operator, a byte of none.
	mayNot(t, plainSheet(dash).entries(list[byte](139)))
	mayNot(t, plainSheet(dash).entries(list[byte](31, 5)))
	may(t, plainSheet(dash).entries(list[byte](139, 5)))
}

// noNumbers is entries that tell no whole number, of an operator.
func noNumbers(op int, right int) [][]byte {
	return list(
		entry(op), entry(op, right, right), entry(op, 0, right), entry(op, right, 0),
		realEntry(op, "0.5f"), realEntry(op, "-2.5ff"), realEntry(op, ".00002ff"),
	)
}

// TestForm: 2, if it is there.
func TestForm(t *testing.T) {
	for _, form := range list(0, 1, 2, 3, -2, 255, 256+2, 1<<16+2, 1<<31-1, -1<<31) {
		s := plainSheet(dash).entries(entry(opForm, form))
		if form == 2 {
			may(t, s)
		} else {
			mayNot(t, s)
		}
	}
	may(t, plainSheet(dash).entries(realEntry(opForm, "2f")))
	may(t, plainSheet(dash).entries(realEntry(opForm, "20_1ff")))
	for _, b := range noNumbers(opForm, 2) {
		mayNot(t, plainSheet(dash).entries(b))
	}
	may(t, plainSheet(dash).entries(entry(opForm, 1), entry(opForm, 7, 7), entry(opForm, 2)))
	mayNot(t, plainSheet(dash).entries(entry(opForm, 2), entry(opForm, 1)))
	// Six, of one byte, is another operator.
	may(t, plainSheet(dash).entries(entry(6, 1)))
}

// topped is a table with another top DICT.
func topped(s sheet, top func(at places) []byte) sheet {
	s.top = top
	return s
}

// TestCodes: where the charstrings are.
func TestCodes(t *testing.T) {
	s := plainSheet(dash, square)
	mayNot(t, topped(s, func(places) []byte { return entry(opCharset, 0) }))
	for _, off := range list(-1, -2, 1<<31-1, -1<<31) {
		mayNot(t, topped(s, func(places) []byte { return entry(opCodes, off) }))
	}
	for more := range 4 {
		mayNot(t, topped(s, func(at places) []byte { return entry(opCodes, at["end"]+more) }))
	}
	mayNot(t, topped(s, func(at places) []byte { return entry(opCodes, at["end"]-1) }))
	for _, b := range noNumbers(opCodes, 40) {
		mayNot(t, s.entries(b))
	}
	may(t, topped(s, func(at places) []byte {
		return slices.Concat(entry(opCodes, -1), entry(opCodes), entry(opCodes, at["codes"]))
	}))
	mayNot(t, topped(s, func(at places) []byte {
		return slices.Concat(entry(opCodes, at["codes"]), entry(opCodes, 0))
	}))
	// No charstrings.
	mayNot(t, plainSheet())
	mayNot(t, plainSheet().with(func(at places) []byte { return entry(opCharset, at["more"]) }, func(places) []part {
		return list(part{"more", make([]byte, 20)})
	}))
	// Within what is ahead: the names are charstrings.
	s = plainSheet(dash)
	s.names = texts("\x0E")
	f := may(t, topped(s, func(places) []byte { return entry(opCodes, 4) }))
	if p, e := f.Program(0, nil); e != api.OK || !bytes.Equal(p.Code, bare) {
		t.Error(p, e)
	}
	// At offset 0, where the head is an INDEX of 256 charstrings with offsets of four bytes.
	s.head = append(list[byte](1, 0, 4), bytes.Repeat(list[byte](0, 0, 0, 1), 257)...)
	s.head = s.head[:4]
	mayNot(t, topped(s, func(places) []byte { return entry(opCodes, 0) }))
	s.head = list[byte](1, 0, 4, 0)
	mayNot(t, topped(s, func(places) []byte { return entry(opCodes, 0) }))
}

// withCharset is a table with that number of its charset, and bytes behind all others.
func withCharset(off func(at places) int, data []byte, codes ...[]byte) sheet {
	return plainSheet(codes...).with(func(at places) []byte { return entry(opCharset, off(at)) }, func(places) []part {
		return list(part{"charset", data})
	})
}

func named(s sheet, t *testing.T, names ...int) {
	t.Helper()
	f := may(t, s)
	for glyph, want := range names {
		if x, e := f.Name(glyph); x != want || e != api.OK {
			t.Errorf("Name(%d): %d %d, want %d", glyph, x, e, want)
		}
	}
	if f.Len() != len(names) {
		t.Error(f.Len(), names)
	}
}

func place(name string, more int) func(at places) int {
	return func(at places) int { return at[name] + more }
}

func fixed(off int) func(at places) int { return func(places) int { return off } }

func TestCharset(t *testing.T) {
	named(withCharset(place("charset", 0), list[byte](0, 0, 9, 1, 0), bare, bare, bare), t, 0, 9, 256)
	named(withCharset(place("charset", 0), list[byte](1, 0, 9, 1), bare, bare, bare), t, 0, 9, 10)
	named(withCharset(place("charset", 0), list[byte](2, 0, 9, 0, 1), bare, bare, bare), t, 0, 9, 10)
	named(withCharset(place("charset", 0), list[byte](2), bare), t, 0)
	mayNot(t, withCharset(place("charset", 0), list[byte](3, 0, 9, 0, 1), bare, bare, bare))
	mayNot(t, withCharset(place("charset", 0), list[byte](0, 0, 9, 1), bare, bare, bare))
	mayNot(t, withCharset(place("charset", 0), list[byte](1, 0, 9, 2), bare, bare, bare))
	mayNot(t, withCharset(place("end", 0), list[byte](0), bare))
	mayNot(t, withCharset(place("end", 1), list[byte](0), bare))
	for _, off := range list(-1, -3, 1<<31-1, -1<<31) {
		mayNot(t, withCharset(fixed(off), list[byte](0, 0, 0, 0, 0, 0), bare))
	}
	for _, b := range noNumbers(opCharset, 0) {
		mayNot(t, plainSheet(dash).entries(b))
	}
	named(plainSheet(bare, bare).entries(entry(opCharset, 2), entry(opCharset), realEntry(opCharset, "0f")), t, 0, 1)
	mayNot(t, plainSheet(bare, bare).entries(entry(opCharset, 0), entry(opCharset, 2)))
}

// TestKnownCharsets: 0 is one of 229 names; 1 and 2 are not read, though there is a charset; from 3 on bytes are.
func TestKnownCharsets(t *testing.T) {
	s := plainSheet(bare, bare)
	s.head = list[byte](1, 0, 4, 0)
	named(s, t, 0, 1)
	named(s.entries(entry(opCharset, 0)), t, 0, 1)
	mayNot(t, s.entries(entry(opCharset, 1)))
	s.head = append(list[byte](1, 7, 128, 0), make([]byte, 124)...)
	mayNot(t, s.entries(entry(opCharset, 2)))
	s.head = list[byte](1, 0, 4, 0)
	named(s.entries(entry(opCharset, 3)), t, 0, 1) // the INDEX of names begins with 0, 1
	s.head = append(list[byte](1, 0, 9, 2, 0, 0, 9), 1, 1)
	named(s.entries(entry(opCharset, 4)), t, 0, 9)
	for _, n := range list(1, 2, 228, 229, 230, 231, 300) {
		codes := slices.Repeat(list(bare), n)
		for _, s := range list(plainSheet(codes...), plainSheet(codes...).entries(entry(opCharset, 0))) {
			if n <= 229 {
				may(t, s)
			} else {
				mayNot(t, s)
			}
			s = s.selected(func(places) [][]byte { return list[[]byte](nil) }, append(list[byte](0), make([]byte, n)...))
			if n <= 229 {
				may(t, s)
			} else {
				mayNot(t, s)
			}
		}
		may(t, withCharset(place("charset", 0), slices.Concat(list[byte](2, 0, 1), number(max(n-2, 0), 2)), codes...))
	}
}

// private is a table with that private DICT, and that entry of it.
func private(pair func(at places) []byte, data []byte, behind ...part) sheet {
	return plainSheet(dash).with(pair, func(places) []part {
		return append(list(part{"private", data}), behind...)
	})
}

func pairOf(numbers func(at places) []int) func(at places) []byte {
	return func(at places) []byte { return entry(opPrivate, numbers(at)...) }
}

// wide asks for the widths that a glyph's charstring begins with.
func wide(t *testing.T, s sheet, standard, nominal int) {
	t.Helper()
	f := may(t, s)
	if p, e := f.Program(0, nil); e != api.OK || p.Default != standard*65536 || p.Nominal != nominal*65536 {
		t.Error(p, e)
	}
}

// TestPrivate: its size and its offset.
func TestPrivate(t *testing.T) {
	data := list[byte](149, 20, 239, 21)
	wide(t, private(func(places) []byte { return nil }, data), 0, 0)
	for n := range 6 {
		s := private(pairOf(func(at places) []int { return list(n, at["private"]) }), data)
		switch n {
		case 0:
			wide(t, s, 0, 0)
		case 2:
			wide(t, s, 10, 0)
		case 4:
			wide(t, s, 10, 100)
		default: // operands are left, or it does not end within the bytes
			mayNot(t, s)
		}
	}
	for _, size := range list(-1, -4, -1<<31, 1<<31-1, 1<<30) {
		mayNot(t, private(pairOf(func(at places) []int { return list(size, at["private"]) }), data))
	}
	for _, off := range list(-1, -4, -1<<31, 1<<31-1) {
		for size := range 3 {
			mayNot(t, private(pairOf(func(at places) []int { return list(size, off) }), data))
		}
	}
	wide(t, private(pairOf(func(at places) []int { return list(2, at["end"]-2) }), data), 0, 100)
	mayNot(t, private(pairOf(func(at places) []int { return list(2, at["end"]-1) }), data))
	mayNot(t, private(pairOf(func(at places) []int { return list(1, at["end"]) }), data))
	wide(t, private(pairOf(func(at places) []int { return list(0, at["end"]) }), data), 0, 0)
	mayNot(t, private(pairOf(func(at places) []int { return list(0, at["end"]+1) }), data))
	wide(t, private(pairOf(func(at places) []int { return list(0, 0) }), data), 0, 0)
	for _, numbers := range list(nil, list(0), list(0, 0, 0), list(4), list(4, 4, 4)) {
		mayNot(t, private(pairOf(func(at places) []int { return numbers }), data))
	}
	// The last entry counts; real numbers that are whole ones do.
	wide(t, private(func(at places) []byte {
		return slices.Concat(entry(opPrivate), entry(opPrivate, -1, -1), entry(opPrivate, 4, at["private"]))
	}, data), 10, 100)
	mayNot(t, private(func(at places) []byte {
		return slices.Concat(entry(opPrivate, 4, at["private"]), entry(opPrivate, 4))
	}, data))
	for _, c := range []struct {
		size, off string
		right     bool
	}{{"0f", "1f", true}, {"0f", "4E1f", true}, {"0.5f", "1f", false}, {"0f", "1.5f", false}, {".00002ff", "1f", false}} {
		b := private(func(places) []byte {
			return slices.Concat(realNumber(c.size), realEntry(opPrivate, c.off))
		}, data).bytes()
		if isPlain(t, b) != c.right {
			t.Error(c)
		}
	}
}

// TestWidths: whole numbers, 0 where there are none.
func TestWidths(t *testing.T) {
	one := func(l ...[]byte) sheet {
		return plainSheet(dash).private(func(places) []byte { return slices.Concat(l...) })
	}
	for _, x := range list(0, 1, -1, 500, 1<<15, -1<<15-1, 1<<31-1, -1<<31) {
		wide(t, one(entry(opDefault, x)), x, 0)
		wide(t, one(entry(opNominal, x)), 0, x)
		wide(t, one(entry(opNominal, -5), entry(opDefault, 7), entry(opDefault, x)), x, -5)
	}
	wide(t, one(realEntry(opNominal, "2147483648ff"), realEntry(opDefault, "-15E1f")), -150, 1<<31)
	for _, op := range list(opDefault, opNominal) {
		for _, b := range noNumbers(op, 5) {
			mayNot(t, one(b))
			wide(t, one(b, entry(op, 0)), 0, 0)
			mayNot(t, one(entry(op, 0), b))
		}
	}
	// A width that no charstring may have is loaded, and refused when it is drawn.
	f := may(t, one(entry(opDefault, 1<<15+1)))
	if d, e := f.Draw(0, nil); e != api.ErrOver || !reflect.DeepEqual(d, api.Drawn{}) {
		t.Error(d, e)
	}
	// Entries that tell nothing here.
	wide(t, one(entry(5, 1), entry(3072+9), entry(opCharset, -1), entry(opForm, 9), entry(opSelected, 1)), 0, 0)
}

// locals asks for the subroutines of a table's one glyph.
func locals(t *testing.T, s sheet, want ...[]byte) {
	t.Helper()
	f := may(t, s)
	if p, e := f.Program(0, nil); e != api.OK || !same(p.Local, want) {
		t.Error(p, e)
	}
}

// TestLocal: from the private DICT's beginning on, behind it or ahead.
func TestLocal(t *testing.T) {
	l := texts("\x0B", "", "\x8B\x0B")
	one := func(numbers func(at places) []int, data []byte) sheet {
		return plainSheet(dash).with(nil, func(places) []part {
			return list(part{"ahead", indexOf(texts("a", "b")...)})
		}).private(func(at places) []byte {
			return entry(opLocal, numbers(at)...)
		}, part{"local", data}, part{"behind", indexOf()})
	}
	from := func(name string, more int) func(at places) []int {
		return func(at places) []int { return list(at[name] - at["private"] + more) }
	}
	locals(t, one(from("local", 0), indexOf(l...)), l...)
	locals(t, one(from("ahead", 0), indexOf(l...)), texts("a", "b")...)
	locals(t, one(from("codes", 0), indexOf(l...)), dash)
	locals(t, one(from("behind", 0), indexOf(l...)))
	locals(t, one(from("local", 0), indexOf()))
	mayNot(t, one(from("local", 2), indexOf(l...)))
	mayNot(t, one(from("behind", 1), indexOf(l...)))
	mayNot(t, one(from("end", 0), indexOf(l...)))
	mayNot(t, one(from("end", 1), indexOf(l...)))
	mayNot(t, one(from("nowhere", -1), indexOf(l...)))
	mayNot(t, one(from("local", 0), list[byte](0, 1, 1, 1, 200)))
	for _, numbers := range list(nil, list(1<<31-1), list(-1<<31), list(-1000), list(0, 0)) {
		mayNot(t, one(func(places) []int { return numbers }, indexOf(l...)))
	}
	for _, b := range noNumbers(opLocal, 6) {
		mayNot(t, plainSheet(dash).private(func(places) []byte { return b }, part{"local", make([]byte, 20)}))
	}
	// At offset 0, where the head is: no INDEX.
	mayNot(t, one(func(at places) []int { return list(-at["private"]) }, indexOf(l...)))
	// The last entry counts.
	locals(t, plainSheet(dash).private(func(at places) []byte {
		return slices.Concat(entry(opLocal), entry(opLocal, -1<<31), entry(opLocal, at["local"]-at["private"]))
	}, part{"local", indexOf(l...)}), l...)
	// 0 is an offset as others are: the private DICT, 0 1 1 1 2 99 as operators and their operands, is the INDEX.
	mayNot(t, plainSheet(dash).private(func(places) []byte { return entry(opLocal, 0) }))
	mixed := slices.Concat(list[byte](0, 1, 1, 1, 8), entry(opLocal, 0), list[byte](5))
	locals(t, plainSheet(dash).private(func(places) []byte { return mixed }), mixed[5:12])
}

// TestFamilies: how many there may be, and what tells that there are.
func TestFamilies(t *testing.T) {
	one := func(n int, selection []byte) sheet {
		return plainSheet(dash, dash).selected(func(places) [][]byte { return make([][]byte, n) }, selection)
	}
	for _, n := range list(0, 1, 2, 3, 255, 256, 257, 258, 1000, 65535) {
		s := one(n, list[byte](0, 0, 0))
		if n >= 1 && n <= 256 {
			if f := may(t, s); f.Families() != n {
				t.Error(n, f.Families())
			}
			may(t, one(n, list(0, 0, byte(n-1))))
		} else {
			mayNot(t, s)
		}
		if n < 256 {
			mayNot(t, one(n, list(0, 0, byte(n))))
			mayNot(t, one(n, list(0, byte(n), 0)))
		}
	}
	for _, selection := range [][]byte{nil, {0}, {0, 0}, {1, 0, 0}, {2, 0, 0}, {3, 0, 1, 0, 0, 0, 0, 1}, {3, 0, 1, 0, 0, 0, 0, 3}, {3, 0, 0, 0, 2}, {3, 0, 1, 0, 1, 0, 0, 2}} {
		s := plainSheet(dash, dash).with(func(at places) []byte {
			return slices.Concat(entry(opSelected, 0, 0, 0), entry(opFamilies, at["dicts"]), entry(opSelection, at["selection"]))
		}, func(places) []part {
			return list(part{"dicts", indexOf(nil, nil, nil)}, part{"selection", selection})
		})
		mayNot(t, s)
	}
	may(t, one(3, list[byte](3, 0, 1, 0, 0, 2, 0, 2)))
}

// TestSelected: of the entries that tell of families.
func TestSelected(t *testing.T) {
	dicts := part{"dicts", indexOf(nil, nil)}
	selection := part{"selection", list[byte](0, 1, 0)}
	one := func(top func(at places) []byte) sheet {
		return plainSheet(dash, dash).with(top, func(places) []part { return list(dicts, selection) })
	}
	families := func(t *testing.T, s sheet, n int) {
		t.Helper()
		if f := may(t, s); f.Families() != n {
			t.Error(f.Families(), n)
		}
	}
	both := func(at places) []byte {
		return slices.Concat(entry(opFamilies, at["dicts"]), entry(opSelection, at["selection"]))
	}
	families(t, one(both), 1)
	for _, numbers := range list(nil, list(1), list(1, 2), list(391, 392, 0), list(-1, -1, -1, -1)) {
		families(t, one(func(at places) []byte { return append(entry(opSelected, numbers...), both(at)...) }), 2)
		families(t, one(func(at places) []byte { return append(both(at), entry(opSelected, numbers...)...) }), 2)
	}
	families(t, one(func(at places) []byte { return append(realEntry(opSelected, "0.5f"), both(at)...) }), 2)
	// One of them is not there.
	mayNot(t, one(func(at places) []byte { return entry(opSelected, 0, 0, 0) }))
	mayNot(t, one(func(at places) []byte { return append(entry(opSelected, 0, 0, 0), both(at)[7:]...) }))
	mayNot(t, one(func(at places) []byte { return append(entry(opSelected, 0, 0, 0), both(at)[:7]...) }))
	for _, op := range list(opFamilies, opSelection) {
		wrong := append(noNumbers(op, 60), entry(op, -1), entry(op, 1<<31-1), entry(op, -1<<31), entry(op, 5))
		for _, b := range wrong {
			mayNot(t, one(func(at places) []byte { return slices.Concat(entry(opSelected, 0, 0, 0), both(at), b) }))
			families(t, one(func(at places) []byte { return slices.Concat(entry(opSelected, 0, 0, 0), b, both(at)) }), 2)
			// Where they tell nothing they are not looked at.
			families(t, one(func(at places) []byte { return b }), 1)
		}
		for more := range 2 {
			mayNot(t, one(func(at places) []byte {
				return slices.Concat(entry(opSelected, 0, 0, 0), both(at), entry(op, at["end"]+more))
			}))
		}
	}
	// The top DICT's own private one is that of no family.
	families(t, one(func(at places) []byte {
		return slices.Concat(entry(opSelected), entry(opPrivate, 7), both(at), entry(opPrivate, -1, -1))
	}), 2)
	// What tells of families is looked for in the top DICT alone.
	s := plainSheet(dash, dash).selected(func(places) [][]byte {
		return list(slices.Concat(entry(opSelected), entry(opFamilies, -1), entry(opCodes), entry(opForm, 1)))
	}, list[byte](0, 0, 0))
	families(t, s, 1)
}

// TestDictsOfFamilies: each is one, with a private DICT as a top DICT has it.
func TestDictsOfFamilies(t *testing.T) {
	width := func(x int) []byte { return entry(opDefault, x) }
	one := func(third func(at places) []byte) sheet {
		return plainSheet(bare, bare, bare, bare).selected(func(at places) [][]byte {
			return list(entry(opPrivate, 6, at["first"]), entry(opPrivate, 0, at["end"]), third(at))
		}, list[byte](0, 2, 0, 1, 2), part{"first", width(5)}, part{"third", width(7)})
	}
	f := may(t, one(func(at places) []byte { return entry(opPrivate, 6, at["third"]) }))
	for glyph, want := range list(7, 5, 0, 7) {
		if d, e := f.Draw(glyph, nil); e != api.OK || d.Width != want*api.One16 {
			t.Error(glyph, d, e)
		}
	}
	may(t, one(func(at places) []byte { return nil }))
	for _, b := range list(list[byte](139), list[byte](255, 18), entry(opPrivate), entry(opPrivate, 0), entry(opPrivate, -1, 0), entry(opPrivate, 0, -1), entry(opPrivate, 1, 1<<30), entry(opPrivate, 0, 0, 0)) {
		mayNot(t, one(func(places) []byte { return b }))
	}
	// Families that have the same private DICT, or the same subroutines.
	s := plainSheet(bare, bare, bare).selected(func(at places) [][]byte {
		return list(entry(opPrivate, 6, at["a"]), entry(opPrivate, 6, at["b"]), entry(opPrivate, 6, at["a"]))
	}, list[byte](0, 0, 1, 2))
	s = s.with(nil, func(at places) []part {
		return list(part{"a", entry(opLocal, at["local"]-at["a"])}, part{"b", entry(opLocal, at["local"]-at["b"])}, part{"local", indexOf(texts("abc", "de")...)})
	})
	f = may(t, s)
	for glyph := range 3 {
		if p, e := f.Program(glyph, nil); e != api.OK || !same(p.Local, texts("abc", "de")) {
			t.Error(p, e)
		}
	}
}

// TestManyGlyphs: as many as there may be, each of a family, and with a name.
func TestManyGlyphs(t *testing.T) {
	const n = api.MaxGlyphs
	s := plainSheet(slices.Repeat(list(bare), n)...).with(func(at places) []byte {
		return entry(opCharset, at["charset"])
	}, func(places) []part {
		return list(part{"charset", list[byte](2, 0, 1, 0xFF, 0xFD)})
	}).selected(func(places) [][]byte { return make([][]byte, 2) }, list[byte](3, 0, 2, 0, 0, 0, 0xFF, 0xFE, 1, 0xFF, 0xFF))
	f := loaded(t, s.bytes())
	if f.Len() != n || f.Families() != 2 {
		t.Error(f.Len(), f.Families())
	}
	for _, glyph := range list(0, 1, 255, 256, n-2, n-1) {
		if x, e := f.Name(glyph); x != glyph || e != api.OK {
			t.Error(glyph, x, e)
		}
		has(t, f, glyph, api.Program{Code: bare})
	}
	hasNot(t, f, api.ErrGlyph, noGlyphs(n)...)
}

// TestDraws: a glyph's random numbers are those that are handed in.
func TestDraws(t *testing.T) {
	s := plainSheet(list[byte](139, 139, 21, 12, 23, 12, 23, 5, 14))
	f := may(t, s)
	for _, draws := range list(nil, list(0), list(9, 65535), list(-1, 70000, 3)) {
		has(t, f, 0, api.Program{Code: list[byte](139, 139, 21, 12, 23, 12, 23, 5, 14), Draws: draws})
	}
	if d, e := f.Draw(0, list(9, 19)); e != api.OK || d.Outline[0][1].X != 10 || d.Outline[0][1].Y != 20 {
		t.Error(d, e)
	}
}

// TestCalls: subroutines of all, and of the glyph's own family.
func TestCalls(t *testing.T) {
	local, global := list[byte](32, 10, 14), list[byte](32, 29, 14)
	s := twoFamilies()
	s.global = list(list[byte](139, 149, 21, 149, 6, 11))
	s.parts = func(old func(at places) []part) func(at places) []part {
		return func(at places) []part {
			l := old(at)
			l[0] = part{"codes", indexOf(local, global, local, global)}
			l[1] = part{"local", indexOf(list[byte](159, 22, 169, 7, 11), nil)}
			return l
		}
	}(s.parts)
	f := may(t, s)
	if d, e := f.Draw(2, nil); e != api.ErrSubr || !reflect.DeepEqual(d, api.Drawn{}) {
		t.Error("a family without subroutines", d, e)
	}
	if d, e := f.Draw(0, nil); e != api.OK || d.Outline[0][1].X != 20*api.One16 || d.Outline[0][1].Y != 30*api.One16 || d.Width != 300*api.One16 {
		t.Error(d, e)
	}
	for glyph, want := range map[int]int{1: 300, 3: 0} {
		if d, e := f.Draw(glyph, nil); e != api.OK || d.Outline[0][1].X != 10*api.One16 || d.Outline[0][1].Y != 10*api.One16 || d.Width != want*api.One16 {
			t.Error(glyph, d, e)
		}
	}
}

func TestOfANilOne(t *testing.T) {
	var f *cff.Font
	if f.Len() != 0 || f.Families() != 0 {
		t.Error(f.Len(), f.Families())
	}
	hasNot(t, f, api.ErrClosed, append(noGlyphs(1), 0)...)
}

// fill changes bytes, and those in the room behind them.
func fill(b []byte) {
	b = b[:cap(b)]
	for i := range b {
		b[i] = 0xAA
	}
}

// spoil changes all of a program.
func spoil(p api.Program) {
	fill(p.Code)
	for _, l := range list(p.Global, p.Local) {
		for _, b := range l {
			fill(b)
		}
		l = l[:cap(l)]
		for i := range l {
			l[i] = list[byte](77)
		}
	}
	for i := range p.Draws[:cap(p.Draws)] {
		p.Draws[:cap(p.Draws)][i] = 77
	}
}

// TestMemory changes what was handed in, and what was answered, its spare room too.
func TestMemory(t *testing.T) {
	for _, s := range samples() {
		b := s.bytes()
		want, _ := asIsPlain(slices.Clone(b))
		room := append(b, "xyz"...)
		was := slices.Clone(room)
		f := loaded(t, room[:len(b)])
		draws := list(1, 2, 3, 4)
		for glyph := range f.Len() {
			p, _ := f.Program(glyph, draws[:2])
			other, _ := f.Program(glyph, draws[:2])
			spoil(p)
			if !sameProgram(other, want.program(glyph, list(1, 2))) {
				t.Error("programs share something", other)
			}
			spoil(other)
			d, _ := f.Draw(glyph, draws[:2])
			for _, c := range d.Outline {
				clear(c[:cap(c)])
			}
			clear(d.Outline[:cap(d.Outline)])
		}
		if !slices.Equal(draws, list(1, 2, 3, 4)) || !bytes.Equal(room, was) {
			t.Error("what is handed in is changed", draws, room)
		}
		fill(room)
		is(t, f, want)
	}
	// Lists of one program share nothing with one another.
	f := loaded(t, oneFamily().bytes())
	p, _ := f.Program(0, nil)
	fill(p.Local[0])
	fill(p.Global[0])
	fill(p.Code)
	want := texts("\x0B", "", "\x8B\x0B")
	if !same(p.Local[1:], want[1:]) || !bytes.Equal(p.Global[1], list[byte](0x95, 6, 11)) {
		t.Error(p)
	}
}

// TestAtOnce: what is answered does not hang on who else asks.
func TestAtOnce(t *testing.T) {
	b := twoFamilies().bytes()
	f := loaded(t, b)
	want, _ := asIsPlain(b)
	var all sync.WaitGroup
	for range 8 {
		all.Go(func() {
			for glyph := range f.Len() {
				p, e := f.Program(glyph, nil)
				if e != api.OK || !sameProgram(p, want.program(glyph, nil)) {
					t.Error(glyph, p, e)
				}
				spoil(p)
				if _, e := f.Draw(glyph, nil); e == api.ErrGlyph {
					t.Error(glyph, e)
				}
			}
		})
	}
	all.Wait()
}

// TestCuts: each beginning, also where more bytes lie in the room behind.
func TestCuts(t *testing.T) {
	for _, s := range samples() {
		b := s.bytes()
		for n := range b {
			isPlain(t, b[:n])
			isPlain(t, slices.Clone(b[:n]))
		}
		loadsNot(t, b[:20])
	}
}

// TestEachByte puts every other byte into every place.
func TestEachByte(t *testing.T) {
	count := map[bool]int{}
	for _, s := range samples() {
		b := s.bytes()
		for at := range b {
			was := b[at]
			for x := range 256 {
				b[at] = byte(x)
				count[isPlain(t, b)]++
			}
			b[at] = was
		}
	}
	if count[true] < 10000 || count[false] < 10000 {
		t.Error("not of both kinds:", count)
	}
}

// TestDrawnChanges changes some bytes of tables, cuts them, and puts others behind.
func TestDrawnChanges(t *testing.T) {
	draw := rand.New(rand.NewSource(19))
	count := map[bool]int{}
	all := samples()
	for range 60000 {
		b := all[draw.Intn(len(all))].bytes()
		for range 1 + draw.Intn(3) {
			at := draw.Intn(len(b))
			switch draw.Intn(3) {
			case 0:
				b[at] = byte(draw.Intn(256))
			case 1:
				b[at] += byte(draw.Intn(5) - 2)
			case 2:
				b[at] = byte(draw.Intn(24))
			}
		}
		if draw.Intn(8) == 0 {
			b = b[:draw.Intn(len(b))]
		}
		b = append(b, make([]byte, draw.Intn(2)*draw.Intn(9))...)
		count[isPlain(t, b)]++
	}
	if count[true] < 5000 || count[false] < 5000 {
		t.Error("not of both kinds:", count)
	}
}
