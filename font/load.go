package font

import (
	"slices"

	"serif/api"
	"serif/cff"
	"serif/cmap"
	"serif/glyf"
	"serif/heads"
	"serif/kern"
	"serif/metric"
	"serif/sfnt"
)

// Tags of the tables that are read.
const (
	tagHead  = "head"
	tagMaxp  = "maxp"
	tagHhea  = "hhea"
	tagHmtx  = "hmtx"
	tagCmap  = "cmap"
	tagKern  = "kern"
	tagCff   = "CFF "
	tagLoca  = "loca"
	tagGlyf  = "glyf"
	optional = tagKern // the one that need not be there
)

// Tags of tables that only fonts have that are not read.
const (
	tagSecond    = "CFF2"
	tagVariable  = "fvar"
	tagPlaces    = "GPOS"
	tagExchanges = "GSUB"
)

// Load is the font of these bytes.
func Load(b []byte) (*Font, api.Errno) {
	version, list, e := sfnt.Parse(b)
	if e != api.OK {
		return nil, e
	}
	if e := unread(list); e != api.OK {
		return nil, e
	}
	s := &source{bytes: b, tables: tables{isCff: version == api.VersionCff}}
	for _, r := range readings(s.isCff) {
		if e := s.take(r); e != api.OK {
			return nil, e
		}
	}
	return &Font{tables: s.tables}, api.OK
}

// unread refuses a font of a kind that is not read.
func unread(list []api.Table) api.Errno {
	has := func(tag string) bool {
		return slices.ContainsFunc(list, func(t api.Table) bool { return t.Tag == tag })
	}
	switch {
	case has(tagSecond):
		return api.ErrCff2
	case has(tagVariable):
		return api.ErrVariable
	case has(tagPlaces), has(tagExchanges):
		return api.ErrLayout
	}
	return api.OK
}

// source is a font that is read, table by table: what tables say, and what those behind them have to know of it.
type source struct {
	tables
	bytes  []byte
	long   bool
	places *metric.Places
}

// reading is a table, and how it is read.
type reading struct {
	tag  string
	read func(s *source, table []byte) api.Errno
}

// readings is all tables that are read, in this order.
func readings(isCff bool) []reading {
	all := []reading{
		{tagHead, (*source).readHead},
		{tagMaxp, (*source).readMaxp},
		{tagHhea, (*source).readHhea},
		{tagHmtx, (*source).readHmtx},
		{tagCmap, (*source).readCmap},
		{tagKern, (*source).readKern},
	}
	if isCff {
		return append(all, reading{tagCff, (*source).readCff})
	}
	return append(all, reading{tagLoca, (*source).readLoca}, reading{tagGlyf, (*source).readGlyf})
}

// take reads a table, if it is there, or must be.
func (s *source) take(r reading) api.Errno {
	table, e := sfnt.Find(s.bytes, r.tag)
	switch {
	case e == api.ErrMissing && r.tag == optional:
		return api.OK
	case e != api.OK:
		return e
	}
	return r.read(s, table)
}

func (s *source) readHead(table []byte) api.Errno {
	h, e := heads.Head(table)
	s.units, s.long = h.Units, h.Long
	return e
}

func (s *source) readMaxp(table []byte) api.Errno {
	g, e := heads.Glyphs(table)
	if e == api.OK && g.True == s.isCff {
		return api.ErrMaxp
	}
	s.glyphs = g.N
	return e
}

func (s *source) readHhea(table []byte) (e api.Errno) {
	s.lines, e = heads.Lines(table)
	return e
}

func (s *source) readHmtx(table []byte) (e api.Errno) {
	if s.lines.Metrics > s.glyphs {
		return api.ErrMetric
	}
	s.metrics, e = metric.Load(table, s.glyphs, s.lines.Metrics)
	return e
}

func (s *source) readCmap(table []byte) (e api.Errno) {
	s.codes, _, e = cmap.Load(table, s.glyphs)
	return e
}

func (s *source) readKern(table []byte) (e api.Errno) {
	s.pairs, e = kern.Load(table)
	return e
}

func (s *source) readCff(table []byte) (e api.Errno) {
	s.cff, e = cff.Load(table)
	if e == api.OK && s.cff.Len() != s.glyphs {
		return api.ErrCff
	}
	return e
}

// readLoca holds places against how long glyf is. Where that is missing, places may still be: those of glyphs that have no bytes.
func (s *source) readLoca(table []byte) (e api.Errno) {
	outlines, _ := sfnt.Find(s.bytes, tagGlyf)
	s.places, e = metric.LoadPlaces(table, s.glyphs, s.long, len(outlines))
	return e
}

func (s *source) readGlyf(table []byte) (e api.Errno) {
	s.plain, e = glyf.New(table, s.places)
	return e
}
