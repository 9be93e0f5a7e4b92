package font

import (
	"serif/api"
	"serif/cff"
	"serif/charmap"
	"serif/cmap"
	"serif/glyf"
	"serif/heads"
	"serif/kern"
	"serif/metric"
	"serif/sfnt"
)

// formatGroups is the format of subtables that has all code points.
const formatGroups = 12

// Where in cmap a subtable is put: it tells which code points these are.
const (
	platform      = 3
	encodingShort = 1
	encodingAll   = 10
)

// Build is the font of these parts.
func Build(p api.FontParts) ([]byte, api.Errno) {
	if (len(p.Glyphs) > 0) == (len(p.Cff.Codes) > 0) {
		return nil, api.ErrArg
	}
	m := makerOf(p)
	var blobs []api.Blob
	for _, x := range m.makings() {
		table, e := x.build(m)
		if e != api.OK {
			return nil, e
		}
		blobs = append(blobs, api.Blob{Tag: x.tag, Data: table})
	}
	return sfnt.Build(m.version(), blobs)
}

// maker is a font's parts, and its table glyf: that one is made ahead, for head tells how its places are put.
type maker struct {
	api.FontParts
	outlines []byte
	offsets  []int
	refused  api.Errno // what the table glyf was refused by
}

// makerOf is the maker of these parts.
func makerOf(p api.FontParts) *maker {
	m := &maker{FontParts: p}
	m.outlines, m.offsets, m.refused = glyf.Build(p.Glyphs)
	return m
}

// making is a table, and how it is made.
type making struct {
	tag   string
	build func(m *maker) ([]byte, api.Errno)
}

// makings is all tables that are made, in this order.
func (m *maker) makings() []making {
	all := []making{
		{tagHead, (*maker).makeHead},
		{tagMaxp, (*maker).makeMaxp},
		{tagHhea, (*maker).makeHhea},
		{tagHmtx, (*maker).makeHmtx},
		{tagCmap, (*maker).makeCmap},
	}
	if len(m.Kerns) > 0 {
		all = append(all, making{tagKern, (*maker).makeKern})
	}
	if m.isCff() {
		return append(all, making{tagCff, (*maker).makeCff})
	}
	return append(all, making{tagGlyf, (*maker).makeGlyf}, making{tagLoca, (*maker).makeLoca})
}

func (m *maker) isCff() bool { return len(m.Cff.Codes) > 0 }

func (m *maker) version() int {
	if m.isCff() {
		return api.VersionCff
	}
	return api.VersionOne
}

// count is how many glyphs there are: one of the two lists is empty.
func (m *maker) count() int { return len(m.Glyphs) + len(m.Cff.Codes) }

// long tells whether places don't fit into the shorter form. A CFF has none.
func (m *maker) long() bool {
	_, e := metric.PutPlaces(m.offsets, false)
	return !m.isCff() && e != api.OK
}

func (m *maker) makeHead() ([]byte, api.Errno) {
	return heads.PutHead(api.Head{Units: m.Units, Long: m.long()})
}

func (m *maker) makeMaxp() ([]byte, api.Errno) {
	return heads.PutGlyphs(api.Glyphs{N: m.count(), True: !m.isCff()})
}

func (m *maker) makeHhea() ([]byte, api.Errno) {
	l := m.Lines
	l.Metrics = m.Own
	return heads.PutLines(l)
}

func (m *maker) makeHmtx() ([]byte, api.Errno) {
	if len(m.Advs) != m.count() {
		return nil, api.ErrArg
	}
	return metric.Put(m.Advs, m.Own)
}

func (m *maker) makeCmap() ([]byte, api.Errno) {
	data, e := charmap.Make(m.Format, m.Codes)
	if e != api.OK {
		return nil, e
	}
	encoding := encodingShort
	if m.Format == formatGroups {
		encoding = encodingAll
	}
	return cmap.Build([]api.Subtable{{Platform: platform, Encoding: encoding, Data: data}})
}

func (m *maker) makeKern() ([]byte, api.Errno) { return kern.Put(m.Kerns) }

func (m *maker) makeGlyf() ([]byte, api.Errno) { return m.outlines, m.refused }

func (m *maker) makeLoca() ([]byte, api.Errno) { return metric.PutPlaces(m.offsets, m.long()) }

func (m *maker) makeCff() ([]byte, api.Errno) { return cff.Build(m.Cff) }
