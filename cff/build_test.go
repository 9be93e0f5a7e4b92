package cff_test

import (
	"bytes"
	"math"
	"math/rand"
	"slices"
	"testing"

	"serif/api"
	"serif/cff"
)

const mostFile = 1 << 20

// plainBytes is the table of parts that may be, part behind part, each of whose places is counted.
func plainBytes(p api.CffParts) []byte {
	topLen := 6 + 6 + 11
	if len(p.Select) > 0 {
		topLen = 17 + 6 + 6 + 7 + 7
	}
	charsetAt := 4 + 6 + 5 + topLen + 2 + len(indexOf(p.Global...))
	parts := list[byte](0)
	for _, x := range p.Names[1:] {
		parts = append(parts, number(x, 2)...)
	}
	here := func() int { return charsetAt + len(parts) }
	codesAt := here()
	parts = append(parts, indexOf(p.Codes...)...)
	var dicts [][]byte
	for _, f := range p.Families {
		size := 12
		if len(f.Local) > 0 {
			size = 18
		}
		dicts = append(dicts, entry(opPrivate, size, here()))
		parts = append(parts, entry(opDefault, f.Default)...)
		parts = append(parts, entry(opNominal, f.Nominal)...)
		if len(f.Local) > 0 {
			parts = append(parts, entry(opLocal, 18)...)
			parts = append(parts, indexOf(f.Local...)...)
		}
	}
	top := append(entry(opCharset, charsetAt), entry(opCodes, codesAt)...)
	if len(p.Select) == 0 {
		top = append(top, dicts[0]...)
	} else {
		selectionAt := here()
		parts = append(parts, plainSelection(p.Select)...)
		top = slices.Concat(entry(opSelected, 0, 0, 0), top, entry(opFamilies, here()), entry(opSelection, selectionAt))
		parts = append(parts, indexOf(dicts...)...)
	}
	return slices.Concat(list[byte](1, 0, 4, 4), indexOf(list[byte]('F')), indexOf(top), list[byte](0, 0), indexOf(p.Global...), parts)
}

// plainSelection is the selection in format 3: a range wherever another family begins.
func plainSelection(l []int) []byte {
	var b []byte
	for glyph, x := range l {
		if glyph == 0 || l[glyph-1] != x {
			b = append(append(b, number(glyph, 2)...), byte(x))
		}
	}
	return slices.Concat(list[byte](3), number(len(b)/3, 2), b, number(len(l), 2))
}

// builds asks for the bytes of parts, and that they are loaded, whatever follows, as those parts.
func builds(t *testing.T, p api.CffParts) {
	t.Helper()
	b, e := cff.Build(p)
	want := plainBytes(p)
	if e != api.OK || !bytes.Equal(b, want) {
		t.Fatalf("Build: %d bytes %v %d, want %d bytes %v", len(b), few(b), e, len(want), few(want))
	}
	members := p.Select
	if len(members) == 0 {
		members = make([]int, len(p.Codes))
	}
	parts := &plain{codes: p.Codes, names: p.Names, members: members, global: p.Global, families: p.Families}
	is(t, loaded(t, b), parts)
	is(t, loaded(t, append(b, 0xFF, 1, 0, 2)), parts)
}

func buildsNot(t *testing.T, p api.CffParts, want api.Errno) {
	t.Helper()
	if b, e := cff.Build(p); len(b) != 0 || e != want {
		t.Errorf("Build: %d bytes %d, want %d", len(b), e, want)
	}
}

// row is numbers from 0 on.
func row(n int) []int {
	var l []int
	for i := range n {
		l = append(l, i)
	}
	return l
}

// some is parts of so many glyphs and families. Of one family there is no selection.
func some(glyphs, families int) api.CffParts {
	p := api.CffParts{Codes: slices.Repeat(list(bare), glyphs), Names: row(glyphs), Families: make([]api.Family, families)}
	if families > 1 {
		p.Select = make([]int, glyphs)
	}
	return p
}

// sampleParts is parts that may be.
func sampleParts() []api.CffParts {
	full := api.CffParts{
		Codes:    list(dash, square, bare, nil),
		Global:   texts("\x0B", "", "abc"),
		Families: []api.Family{{Local: texts("\x0B"), Default: 500, Nominal: -600}, {Default: -1}, {Local: texts("", ""), Nominal: 32767}},
		Select:   list(2, 2, 0, 1),
		Names:    list(0, 65535, 7, 7),
	}
	one := full
	one.Families, one.Select = full.Families[:1], nil
	selected := one
	selected.Select = make([]int, 4)
	empty := some(1, 1)
	empty.Codes = list[[]byte](nil)
	return list(full, one, selected, empty, some(1, 1), some(1, 2), some(3, 256), some(300, 1), some(300, 7))
}

// TestBuildByHand is a table told byte by byte.
func TestBuildByHand(t *testing.T) {
	p := api.CffParts{Codes: list(bare, dash), Names: list(0, 300), Families: []api.Family{{Local: texts("\x0B"), Default: -1, Nominal: 258}}}
	b, e := cff.Build(p)
	want := []byte{
		1, 0, 4, 4,
		0, 1, 1, 1, 2, 'F',
		0, 1, 1, 1, 24, 29, 0, 0, 0, 42, 15, 29, 0, 0, 0, 45, 17, 29, 0, 0, 0, 18, 29, 0, 0, 0, 58, 18,
		0, 0,
		0, 0,
		0, 1, 44,
		0, 2, 1, 1, 2, 8, 14, 139, 139, 21, 239, 6, 14,
		29, 255, 255, 255, 255, 20, 29, 0, 0, 1, 2, 21, 29, 0, 0, 0, 18, 19,
		0, 1, 1, 1, 2, 11,
	}
	if e != api.OK || !bytes.Equal(b, want) {
		t.Errorf("%v %d\nwant %v", b, e, want)
	}
	p.Families = []api.Family{{}, {Nominal: 1}}
	p.Select = list(1, 0)
	p.Global = texts("g")
	b, e = cff.Build(p)
	want = []byte{
		1, 0, 4, 4,
		0, 1, 1, 1, 2, 'F',
		0, 1, 1, 1, 44, 29, 0, 0, 0, 0, 29, 0, 0, 0, 0, 29, 0, 0, 0, 0, 12, 30, 29, 0, 0, 0, 66, 15, 29, 0, 0, 0, 69, 17, 29, 0, 0, 0, 117, 12, 36, 29, 0, 0, 0, 106, 12, 37,
		0, 0,
		0, 1, 1, 1, 2, 'g',
		0, 1, 44,
		0, 2, 1, 1, 2, 8, 14, 139, 139, 21, 239, 6, 14,
		29, 0, 0, 0, 0, 20, 29, 0, 0, 0, 0, 21,
		29, 0, 0, 0, 0, 20, 29, 0, 0, 0, 1, 21,
		3, 0, 2, 0, 0, 1, 0, 1, 0, 0, 2,
		0, 2, 1, 1, 12, 23, 29, 0, 0, 0, 12, 29, 0, 0, 0, 82, 18, 29, 0, 0, 0, 12, 29, 0, 0, 0, 94, 18,
	}
	if e != api.OK || !bytes.Equal(b, want) {
		t.Errorf("%v %d\nwant %v", b, e, want)
	}
}

func TestBuild(t *testing.T) {
	for _, p := range sampleParts() {
		builds(t, p)
	}
	for n := 1; n < 260; n += 9 {
		builds(t, some(n, 1))
		builds(t, some(n, n%256+1))
	}
}

// TestCounts: of charstrings and of families, and what must be as many.
func TestCounts(t *testing.T) {
	buildsNot(t, api.CffParts{}, api.ErrArg)
	buildsNot(t, some(0, 1), api.ErrArg)
	buildsNot(t, some(0, 2), api.ErrArg)
	buildsNot(t, some(1, 0), api.ErrArg)
	for _, n := range list(257, 258, 512, 65536) {
		buildsNot(t, some(3, n), api.ErrArg)
		p := some(3, n)
		p.Select = nil
		buildsNot(t, p, api.ErrArg)
	}
	builds(t, some(3, 256))
	for _, n := range list(2, 3, 256) {
		p := some(3, n)
		p.Select = nil
		buildsNot(t, p, api.ErrArg)
		p.Select = []int{}
		buildsNot(t, p, api.ErrArg)
	}
	// Of no families none can be selected.
	p := some(3, 0)
	p.Select = list(0, 0, 0)
	buildsNot(t, p, api.ErrArg)
	for _, n := range list(1, 2, 4, 5) {
		for _, families := range list(1, 2) {
			p := some(3, families)
			p.Select = make([]int, n)
			buildsNot(t, p, api.ErrArg)
			p = some(3, families)
			p.Names = row(n)
			buildsNot(t, p, api.ErrArg)
			p = some(3, families)
			p.Codes = p.Codes[:min(n, 3)]
			p.Codes = append(p.Codes, slices.Repeat(list(bare), n-len(p.Codes))...)
			buildsNot(t, p, api.ErrArg)
		}
	}
	p = some(3, 1)
	p.Names = nil
	buildsNot(t, p, api.ErrArg)
	p = some(3, 1)
	p.Codes = nil
	buildsNot(t, p, api.ErrArg)
}

// TestMostGlyphs: as many as there may be, and one more.
func TestMostGlyphs(t *testing.T) {
	for _, families := range list(1, 3) {
		p := some(api.MaxGlyphs, families)
		b, e := cff.Build(p)
		if e != api.OK || !bytes.Equal(b, plainBytes(p)) {
			t.Error(len(b), e)
		}
		if f := loaded(t, b); f.Len() != api.MaxGlyphs || f.Families() != families {
			t.Error(f.Len(), f.Families())
		}
		p = some(api.MaxGlyphs+1, families)
		buildsNot(t, p, api.ErrArg)
		p.Names[api.MaxGlyphs] = 5
		buildsNot(t, p, api.ErrArg)
	}
}

// wrongNumbers is numbers that are neither from least to most, nor next to a right one.
func wrongNumbers(least, most int) []int {
	return list(least-1, most+1, -1<<31, 1<<31, 1<<32, -1<<32, 1<<32+1, math.MinInt, math.MaxInt)
}

func TestSelections(t *testing.T) {
	for _, families := range list(1, 2, 200, 256) {
		for glyph := range 3 {
			p := some(3, families)
			p.Select = make([]int, 3)
			for _, x := range list(0, families-1, families/2) {
				p.Select[glyph] = x
				builds(t, p)
			}
			for _, x := range wrongNumbers(0, families-1) {
				p.Select[glyph] = x
				buildsNot(t, p, api.ErrArg)
			}
		}
	}
}

func TestNames(t *testing.T) {
	for _, families := range list(1, 2) {
		p := some(3, families)
		for glyph := range 3 {
			for _, x := range list(0, 1, 255, 256, 65535) {
				p.Names[glyph] = x
				if glyph == 0 && x != 0 {
					buildsNot(t, p, api.ErrArg)
				} else {
					builds(t, p)
				}
			}
			for _, x := range wrongNumbers(0, 65535) {
				p.Names[glyph] = x
				buildsNot(t, p, api.ErrArg)
			}
			p.Names[glyph] = 0
		}
	}
}

func TestWidthsOfFamilies(t *testing.T) {
	for family := range 3 {
		for _, which := range []func(f *api.Family) *int{func(f *api.Family) *int { return &f.Default }, func(f *api.Family) *int { return &f.Nominal }} {
			p := some(3, 3)
			p.Select = list(0, 1, 2)
			x := which(&p.Families[family])
			for _, *x = range list(0, 1, -1, 255, 1<<15-1, -1<<15) {
				builds(t, p)
			}
			for _, *x = range wrongNumbers(-1<<15, 1<<15-1) {
				buildsNot(t, p, api.ErrArg)
			}
			// Also of a family that no glyph belongs to.
			p.Select = list(0, 0, 0)
			buildsNot(t, p, api.ErrArg)
		}
	}
}

// TestTooLong: of each list in turn; what may not be is told ahead of that.
func TestTooLong(t *testing.T) {
	kinds := []func(p *api.CffParts, l [][]byte){
		func(p *api.CffParts, l [][]byte) { p.Global = l },
		func(p *api.CffParts, l [][]byte) { p.Families[0].Local = l },
		func(p *api.CffParts, l [][]byte) { p.Families[len(p.Families)-1].Local = l },
		func(p *api.CffParts, l [][]byte) { p.Codes[1] = slices.Concat(l...) },
	}
	for i, put := range kinds {
		for _, families := range list(1, 2) {
			p := some(2, families)
			size := len(plainBytes(p))
			put(&p, list(make([]byte, mostFile/2)))
			size = mostFile/2 + mostFile - len(plainBytes(p)) // just as many as fit
			for more := -2; more <= 2; more++ {
				put(&p, list(make([]byte, size+more)))
				if n := len(plainBytes(p)); n != mostFile+more {
					t.Fatal(i, n)
				}
				if more > 0 {
					buildsNot(t, p, api.ErrLong)
					continue
				}
				b, e := cff.Build(p)
				if e != api.OK || !bytes.Equal(b, plainBytes(p)) {
					t.Error(i, len(b), e)
				}
				loaded(t, b)
			}
			for _, l := range [][][]byte{list(make([]byte, mostFile)), list(make([]byte, 1<<22)), slices.Repeat(list(make([]byte, 1<<10)), 1<<12)} {
				put(&p, l)
				buildsNot(t, p, api.ErrLong)
				p.Names[1] = -1
				buildsNot(t, p, api.ErrArg)
				p.Names[1] = 1
				p.Families[0].Nominal = 1 << 15
				buildsNot(t, p, api.ErrArg)
				p.Families[0].Nominal = 0
			}
		}
	}
	for _, put := range kinds[:3] {
		p := some(2, 2)
		put(&p, make([][]byte, 65535))
		b, e := cff.Build(p)
		if e != api.OK || !bytes.Equal(b, plainBytes(p)) {
			t.Error(len(b), e)
		}
		for _, n := range list(65536, 65537, 1<<17) {
			put(&p, make([][]byte, n))
			buildsNot(t, p, api.ErrLong)
		}
	}
	// Each list for itself is short enough.
	p := some(2, 2)
	p.Global, p.Codes[0], p.Families[1].Local = list(make([]byte, 1<<19)), make([]byte, 1<<18), list(make([]byte, 1<<18))
	buildsNot(t, p, api.ErrLong)
	p = some(2, 256)
	for i := range p.Families {
		p.Families[i].Local = list(make([]byte, 1<<12))
	}
	buildsNot(t, p, api.ErrLong)
	p = some(2, 256)
	for i := range p.Families {
		p.Families[i].Local = make([][]byte, 1<<16)
	}
	buildsNot(t, p, api.ErrLong)
}

// TestMemoryOfBuild changes what was handed in, and what was answered.
func TestMemoryOfBuild(t *testing.T) {
	for i, p := range sampleParts() {
		want := plainBytes(p)
		first, _ := cff.Build(p)
		second, _ := cff.Build(p)
		fill(first)
		if !bytes.Equal(plainBytes(p), want) || !bytes.Equal(second, want) {
			t.Error(i, "changes what is handed in, or keeps it")
		}
		if third, _ := cff.Build(p); !bytes.Equal(third, want) {
			t.Error(i, third)
		}
	}
	room := append(make([]byte, 0, 10), 14, 11, 11)
	p := some(1, 1)
	p.Codes, p.Global = list(room[:1]), list(room[1:2])
	b, _ := cff.Build(p)
	want := plainBytes(p)
	if !bytes.Equal(room[:10], list[byte](14, 11, 11, 0, 0, 0, 0, 0, 0, 0)) {
		t.Error(room[:10])
	}
	fill(room)
	if !bytes.Equal(b, want) {
		t.Error(b)
	}
}

// TestDrawnParts draws parts, builds and loads them.
func TestDrawnParts(t *testing.T) {
	draw := rand.New(rand.NewSource(193))
	lists := func(most, length int) [][]byte {
		var l [][]byte
		for range draw.Intn(most + 1) {
			b := make([]byte, draw.Intn(1+draw.Intn(length)))
			draw.Read(b)
			l = append(l, b)
		}
		return l
	}
	for range 1500 {
		p := api.CffParts{Codes: append(lists(9, 40), lists(1, 400)...), Global: lists(5, 20)}
		p.Codes = append(p.Codes, dash)
		n := len(p.Codes)
		p.Names = append(p.Names, 0)
		for range n - 1 {
			p.Names = append(p.Names, draw.Intn(1<<draw.Intn(17)))
		}
		families := 1 + draw.Intn(1+draw.Intn(9))
		for range families {
			p.Families = append(p.Families, api.Family{Local: lists(3, 300), Default: draw.Intn(1<<16) - 1<<15, Nominal: draw.Intn(2000) - 1000})
		}
		if families > 1 || draw.Intn(2) == 0 {
			for range n {
				p.Select = append(p.Select, draw.Intn(families))
			}
		}
		builds(t, p)
	}
}
