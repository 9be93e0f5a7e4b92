package font_test

import (
	"bytes"
	"math/rand"
	"slices"
	"testing"

	"serif/api"
	"serif/cff"
	"serif/font"
	"serif/sfnt"
)

// fault is something that is wrong with a font: in which tables, and by which name it is refused.
type fault struct {
	name   string
	tables []string
	e      api.Errno
	do     func(s *sheet)
}

// drop takes a table away; set puts another one in its place; at changes bytes of one.
func drop(tag string, e api.Errno) fault {
	return fault{"no " + tag, list(tag), e, func(s *sheet) { delete(s.tables, tag) }}
}

func set(name, tag string, e api.Errno, table ...byte) fault {
	return fault{name, list(tag), e, func(s *sheet) { s.tables[tag] = table }}
}

func at(name, tag string, e api.Errno, place int, b ...byte) fault {
	return fault{name, list(tag), e, func(s *sheet) { copy(s.tables[tag][place:], b) }}
}

// cut leaves only the first n bytes of a table; or all but the last -n.
func cut(tag string, e api.Errno, n int) fault {
	return fault{"short " + tag, list(tag), e, func(s *sheet) {
		end := n
		if n < 0 {
			end += len(s.tables[tag])
		}
		s.tables[tag] = s.tables[tag][:end]
	}}
}

// kinds is tables of fonts that are not read, in the order in which they are told.
func kinds() []fault {
	return list(
		set("CFF2", "CFF2", api.ErrCff2),
		set("CFF2 of bytes", "CFF2", api.ErrCff2, 1, 2, 3),
		set("fvar", "fvar", api.ErrVariable),
		set("fvar of bytes", "fvar", api.ErrVariable, 9),
		set("GPOS", "GPOS", api.ErrLayout),
		set("GSUB", "GSUB", api.ErrLayout, 0, 1, 0, 0),
	)
}

// firstFaults is what can be wrong with the tables of both kinds of fonts, in the order in which they are read.
func firstFaults() []fault {
	return append(kinds(),
		drop("head", api.ErrMissing), cut("head", api.ErrHead, 53), set("empty head", "head", api.ErrHead), at("units 15", "head", api.ErrHead, 18, 0, 15), at("form 2", "head", api.ErrHead, 51, 2),
		drop("maxp", api.ErrMissing), cut("maxp", api.ErrMaxp, 5), at("no glyphs", "maxp", api.ErrMaxp, 4, 0, 0), at("version 3", "maxp", api.ErrMaxp, 0, 0, 3, 0, 0),
		drop("hhea", api.ErrMissing), cut("hhea", api.ErrHhea, 35), at("no metrics", "hhea", api.ErrHhea, 34, 0, 0), at("version 2", "hhea", api.ErrHhea, 0, 0, 2),
		drop("hmtx", api.ErrMissing), cut("hmtx", api.ErrMetric, -1), set("empty hmtx", "hmtx", api.ErrMetric),
		fault{"many metrics", list("hhea"), api.ErrMetric, func(s *sheet) { copy(s.tables["hhea"][34:], numbers(value(s.tables["maxp"][4:6])+1)) }},
		fault{"most metrics", list("hhea"), api.ErrMetric, func(s *sheet) { copy(s.tables["hhea"][34:], numbers(65535)) }},
		fault{"many metrics, all there", list("hhea", "hmtx"), api.ErrMetric, func(s *sheet) {
			copy(s.tables["hhea"][34:], numbers(value(s.tables["maxp"][4:6])+1))
			s.tables["hmtx"] = make([]byte, 1000)
		}},
		drop("cmap", api.ErrMissing), set("empty cmap", "cmap", api.ErrCmap), at("none that counts", "cmap", api.ErrCmap, 4, 0, 7), at("no format", "cmap", api.ErrCmap, 12, 0, 5), cut("cmap", api.ErrMap, -1),
		set("empty kern", "kern", api.ErrKern), set("kern of a later version", "kern", api.ErrKern, 0, 1, 0, 0), set("short kern", "kern", api.ErrKern, 0, 0, 0, 1, 0),
	)
}

func trueFaults() []fault {
	half := set("CFF's maxp", "maxp", api.ErrMaxp, 0, 0, 0x50, 0, 0, 6)
	all := slices.Insert(firstFaults(), slices.IndexFunc(firstFaults(), func(f fault) bool { return f.name == "no hhea" }), half)
	return append(all,
		drop("loca", api.ErrMissing), cut("loca", api.ErrLoca, -1), set("empty loca", "loca", api.ErrLoca), at("falling loca", "loca", api.ErrLoca, 2, 0xFF, 0xFF),
		drop("glyf", api.ErrLoca), cut("glyf", api.ErrLoca, -1), set("empty glyf", "glyf", api.ErrLoca),
		fault{"no glyf, none asked for", list("loca", "glyf"), api.ErrMissing, func(s *sheet) {
			delete(s.tables, "glyf")
			clear(s.tables["loca"])
		}},
		fault{"long loca", list("head", "loca"), api.ErrLoca, func(s *sheet) { s.tables["head"][51] = 1 }},
	)
}

// trueMaxp is the table maxp of n glyphs whose outlines are TrueType's.
func trueMaxp(n int) []byte {
	return slices.Concat(number(0x00010000, 4), numbers(n), make([]byte, 26))
}

func cffFaults() []fault {
	whole := set("TrueType's maxp", "maxp", api.ErrMaxp, trueMaxp(4)...)
	all := slices.Insert(firstFaults(), slices.IndexFunc(firstFaults(), func(f fault) bool { return f.name == "no hhea" }), whole)
	count := func(n int) []byte {
		p := cffParts().Cff
		for len(p.Codes) < n {
			p.Codes, p.Names = append(p.Codes, dash), append(p.Names, 0)
		}
		p.Codes, p.Names = p.Codes[:n], p.Names[:n]
		return must(cff.Build(p))
	}
	return append(all,
		drop("CFF ", api.ErrMissing), cut("CFF ", api.ErrCff, -1), set("empty CFF", "CFF ", api.ErrCff), at("version 3", "CFF ", api.ErrCff, 0, 3), at("version 2", "CFF ", api.ErrCff2, 0, 2),
		set("fewer charstrings", "CFF ", api.ErrCff, count(3)...), set("more charstrings", "CFF ", api.ErrCff, count(5)...),
	)
}

// refused asks that a font is refused by this name, and nothing is answered beside it.
func refused(t *testing.T, b []byte, want api.Errno, what ...any) {
	t.Helper()
	if f, e := font.Load(b); f != nil || e != want {
		t.Error(what, f, e, "should be", want)
	}
}

// TestFaults: each fault is told by its name; of two that are told in different tables the one that comes first.
func TestFaults(t *testing.T) {
	for _, kind := range []struct {
		base   sheet
		faults []fault
	}{
		{sheetOf(built(t, trueParts())), trueFaults()},
		{sheetOf(built(t, cffParts())), cffFaults()},
	} {
		loaded(t, kind.base.bytes())
		for i, first := range kind.faults {
			s := kind.base.clone()
			first.do(&s)
			refused(t, s.bytes(), first.e, first.name)
			for _, second := range kind.faults[i+1:] {
				if slices.ContainsFunc(first.tables, func(tag string) bool { return slices.Contains(second.tables, tag) }) {
					continue
				}
				s := kind.base.clone()
				second.do(&s)
				first.do(&s)
				if len(s.tables) > 0 {
					refused(t, s.bytes(), first.e, first.name, "and", second.name)
				}
			}
		}
	}
}

// TestDirectory: what sfnt refuses is refused likewise, ahead of all that tables say.
func TestDirectory(t *testing.T) {
	refused(t, nil, api.ErrShort, "no bytes")
	refused(t, []byte{}, api.ErrShort, "no bytes")
	refused(t, make([]byte, 11), api.ErrShort, "11 bytes")
	refused(t, make([]byte, 12), api.ErrTable, "no version")
	refused(t, make([]byte, api.MaxFile+1), api.ErrLong, "too long")
	for _, p := range []api.FontParts{trueParts(), cffParts()} {
		b := built(t, p)
		for n := range b {
			if _, _, e := sfnt.Parse(b[:n]); e != api.OK {
				refused(t, b[:n], e, n)
			}
		}
		refused(t, append(slices.Clone(b), make([]byte, api.MaxFile+1-len(b))...), api.ErrLong, "too long")
		f := loaded(t, append(slices.Clone(b), make([]byte, api.MaxFile-len(b))...))
		if f.Units() != p.Units {
			t.Error(f.Units())
		}
		s := sheetOf(b).with("CFF2").with("fvar")
		bad := s.bytes()
		copy(bad[12:], "zzzz")
		refused(t, bad, api.ErrTable, "tags that fall")
		s.version = 5
		refused(t, s.bytes(), api.ErrTable, "a version that there is not")
	}
	// A font whose sums are wrong may be.
	b := built(t, trueParts())
	copy(b[16:], []byte{1, 2, 3, 4})
	copy(b[6:], []byte{9, 9, 9, 9, 9, 9})
	if loaded(t, b).Glyphs() != 6 {
		t.Error("sums")
	}
}

// TestVersions: which outlines a font has hangs on its version alone.
func TestVersions(t *testing.T) {
	plain, charstrings := sheetOf(built(t, trueParts())), sheetOf(built(t, cffParts()))
	for _, version := range []int{api.VersionOne, api.VersionTrue} {
		plain.version = version
		if f := loaded(t, plain.bytes()); f.Cff() {
			t.Error(version)
		}
		charstrings.version = version
		refused(t, charstrings.bytes(), api.ErrMaxp, version)
		refused(t, charstrings.with("maxp", trueMaxp(4)...).bytes(), api.ErrMissing, version)
	}
	charstrings.version, plain.version = api.VersionCff, api.VersionCff
	if f := loaded(t, charstrings.bytes()); !f.Cff() {
		t.Error("CFF")
	}
	refused(t, plain.bytes(), api.ErrMaxp, "version of a CFF")
	refused(t, plain.with("maxp", 0, 0, 0x50, 0, 0, 6).bytes(), api.ErrMissing, "version of a CFF, its maxp")
}

// TestOtherTables: other tables are not looked at, nor those of the other kind of outlines.
func TestOtherTables(t *testing.T) {
	plain, charstrings := sheetOf(built(t, trueParts())), sheetOf(built(t, cffParts()))
	for _, tag := range []string{"OS/2", "name", "post", "GDEF", "gvar", "CFF ", "fva ", "gpos", "    ", "~~~~"} {
		for _, b := range [][]byte{nil, {1, 2, 3}, bytes.Repeat([]byte{0xFF}, 100)} {
			if f := loaded(t, plain.with(tag, b...).bytes()); f.Cff() || f.Glyphs() != 6 {
				t.Error(tag, b)
			}
		}
	}
	for _, tag := range []string{"OS/2", "VORG", "glyf", "loca", "gvar"} {
		if f := loaded(t, charstrings.with(tag, 1, 2, 3).bytes()); !f.Cff() || f.Glyphs() != 4 {
			t.Error(tag)
		}
	}
	if f := loaded(t, charstrings.with("loca").bytes()); f.Glyphs() != 4 {
		t.Error("loca alone")
	}
	// What follows a table within its bytes is not looked at either.
	long := plain.clone()
	for _, tag := range []string{"head", "maxp", "hhea", "hmtx", "cmap", "kern", "loca", "glyf"} {
		long.tables[tag] = append(long.tables[tag], 7, 7, 7, 7, 7)
	}
	f := loaded(t, long.bytes())
	if o, e := f.Outline(2, nil); f.Glyphs() != 6 || f.Kern(1, 2) != -50 || e != api.OK || len(o) != 1 {
		t.Error("what follows", o, e)
	}
}

// TestNoKern: kern need not be there.
func TestNoKern(t *testing.T) {
	for _, p := range []api.FontParts{trueParts(), cffParts()} {
		p.Kerns = nil
		b := built(t, p)
		if _, has := sheetOf(b).tables["kern"]; has {
			t.Error("there is a kern")
		}
		f := loaded(t, b)
		for left := range 4 {
			for right := range 4 {
				if f.Kern(left, right) != 0 {
					t.Error(left, right)
				}
			}
		}
	}
	// One in which no subtable counts may be.
	f := loaded(t, sheetOf(built(t, trueParts())).with("kern", 0, 0, 0, 0).bytes())
	if f.Kern(1, 2) != 0 {
		t.Error("no subtable")
	}
}

// TestPlaces: places are of the form that head tells, and within glyf.
func TestPlaces(t *testing.T) {
	s := sheetOf(built(t, trueParts()))
	want := loaded(t, s.bytes())
	long := s.clone()
	long.tables["head"][51] = 1
	long.tables["loca"] = nil
	for i := 0; i < len(s.tables["loca"]); i += 2 {
		long.tables["loca"] = append(long.tables["loca"], number(2*value(s.tables["loca"][i:i+2]), 4)...)
	}
	have := loaded(t, long.bytes())
	for glyph := range 6 {
		a, e := want.Outline(glyph, nil)
		b, d := have.Outline(glyph, nil)
		if e != d || !slices.EqualFunc(a, b, slices.Equal) {
			t.Error(glyph, a, e, b, d)
		}
	}
	refused(t, s.with("loca", long.tables["loca"][:13]...).bytes(), api.ErrLoca, "short")
	// Glyphs that all have no bytes need no glyf of any, but one that is there.
	none := s.with("glyf").with("loca", make([]byte, 14)...)
	if o, e := loaded(t, none.bytes()).Outline(1, nil); len(o) != 0 || e != api.OK {
		t.Error(o, e)
	}
	refused(t, none.without("glyf").bytes(), api.ErrMissing, "no glyf")
	refused(t, s.without("glyf").bytes(), api.ErrLoca, "no glyf, and places within")
	refused(t, s.without("glyf").without("loca").bytes(), api.ErrMissing, "neither")
	// The last offset is the end of glyf, or ahead of it.
	end := len(s.tables["glyf"])
	loaded(t, s.with("glyf", append(slices.Clone(s.tables["glyf"]), 0)...).bytes())
	refused(t, s.with("glyf", s.tables["glyf"][:end-1]...).bytes(), api.ErrLoca, "ends too soon")
}

// TestMetricsCount: as many metrics as glyphs may be, and fewer.
func TestMetricsCount(t *testing.T) {
	s := sheetOf(built(t, trueParts()))
	for own := 1; own <= 7; own++ {
		c := s.with("hmtx", bytes.Repeat([]byte{0, 9}, 7*2)...)
		copy(c.tables["hhea"][34:], numbers(own))
		if own == 7 {
			refused(t, c.bytes(), api.ErrMetric, own)
			continue
		}
		f := loaded(t, c.bytes())
		if f.Lines().Metrics != own {
			t.Error(own, f.Lines())
		}
		short := c.with("hmtx", make([]byte, 2*own+12)...)
		loaded(t, short.bytes())
		refused(t, c.with("hmtx", make([]byte, 2*own+11)...).bytes(), api.ErrMetric, own)
	}
}

// TestChanged: fonts of which any bytes are changed are loaded or refused; what is loaded answers, and answers the same again.
func TestChanged(t *testing.T) {
	draw := rand.New(rand.NewSource(27))
	draws := []int{5, -1, 1 << 40}
	for _, base := range [][]byte{built(t, trueParts()), built(t, cffParts()), built(t, small())} {
		for range 1500 {
			b := slices.Clone(base)
			for range 1 + draw.Intn(4) {
				b[draw.Intn(len(b))] = byte([]int{draw.Intn(256), 0, 255, 1, 127, 128}[draw.Intn(6)])
			}
			kept := slices.Clone(b)
			f, e := font.Load(b)
			if !bytes.Equal(b, kept) {
				t.Fatal("changed what is handed in")
			}
			if (f == nil) == (e == api.OK) {
				t.Fatal(f, e)
			}
			if f == nil {
				continue
			}
			clear(b)
			again := loaded(t, kept)
			for _, glyph := range []int{-1, 0, 1, 2, 3, 4, 5, 6, f.Glyphs() - 1, f.Glyphs()} {
				k := api.Key{Glyph: glyph, Ppem: 1 + draw.Intn(60), PhaseX: draw.Intn(64), PhaseY: draw.Intn(64)}
				answersAlike(t, f, again, k, draws)
			}
			for range 20 {
				code := draw.Intn(200)
				if glyph := f.Glyph(code); glyph < 0 || glyph >= f.Glyphs() || glyph != again.Glyph(code) {
					t.Fatal(code, glyph)
				}
			}
		}
	}
}

// TestAnyBytes: bytes that are no font at all are refused.
func TestAnyBytes(t *testing.T) {
	draw := rand.New(rand.NewSource(28))
	for range 3000 {
		b := make([]byte, draw.Intn(200))
		draw.Read(b)
		if len(b) > 6 && draw.Intn(2) == 0 {
			copy(b, []byte{0, 1, 0, 0, 0, byte(draw.Intn(12))})
		}
		if f, e := font.Load(b); f != nil || e == api.OK {
			t.Fatal(b, f, e)
		}
	}
}
