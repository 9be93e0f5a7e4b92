package cff

import (
	"slices"

	"serif/api"
	"serif/charset"
	"serif/index"
	"serif/wire"
)

// leastWidth and mostWidth are what a family's widths can be.
const (
	leastWidth = -(1 << 15)
	mostWidth  = 1<<15 - 1
)

// Formats of what is built.
const (
	charsetFormat   = 0
	selectionFormat = 3
)

// fontName is the one name of a table that is built.
const fontName = "F"

// longNumber begins a number of four more bytes.
const longNumber = 29

// An operator of two bytes begins with escape.
const escape = escaped >> 8

// Build is the table of these parts.
func Build(p api.CffParts) ([]byte, api.Errno) {
	names, selection, e := checked(p)
	if e != api.OK {
		return nil, e
	}
	m := &maker{selection: selection, names: names}
	m.global, m.codes = m.index(p.Global...), m.index(p.Codes...)
	for _, f := range p.Families {
		m.families = append(m.families, m.family(f))
	}
	// What is ahead of the parts is as long wherever they lie, for so are the numbers that tell it.
	ahead, _ := m.lay(0)
	ahead, parts := m.lay(len(ahead))
	b, e := wire.To(api.MaxFile).Data(ahead).Data(parts).Done()
	if m.long || e != api.OK {
		return nil, api.ErrLong
	}
	return b, api.OK
}

// checked is the charset and the selection, if all parts may be.
func checked(p api.CffParts) (names, selection []byte, e api.Errno) {
	// Put refuses too few and too many names, and so charstrings; PutSelect, families.
	names, e = charset.Put(p.Names, charsetFormat)
	if e != api.OK || len(p.Names) != len(p.Codes) || slices.ContainsFunc(p.Families, tooWide) {
		return nil, nil, api.ErrArg
	}
	if len(p.Select) == 0 && len(p.Families) == 1 {
		return names, nil, api.OK
	}
	selection, e = charset.PutSelect(p.Select, len(p.Families), selectionFormat)
	if e != api.OK || len(p.Select) != len(p.Codes) {
		return nil, nil, api.ErrArg
	}
	return names, selection, api.OK
}

// tooWide tells whether a family has a width that may not be.
func tooWide(f api.Family) bool {
	return min(f.Default, f.Nominal) < leastWidth || max(f.Default, f.Nominal) > mostWidth
}

// maker has the parts of a table that is built, and notes whether one is too long.
type maker struct {
	names     []byte
	selection []byte // of one family alone none
	global    []byte
	codes     []byte
	families  []made
	long      bool
}

// made is a family's private DICT, and the INDEX of its subroutines, if there are any.
type made struct {
	private []byte
	local   []byte
}

// index is the INDEX of these lists.
func (m *maker) index(l ...[]byte) []byte {
	b, e := index.Put(l)
	m.long = m.long || e != api.OK
	return b
}

// family is the parts of a family.
func (m *maker) family(f api.Family) made {
	private := slices.Concat(entry(opDefault, f.Default), entry(opNominal, f.Nominal))
	if len(f.Local) == 0 {
		return made{private: private}
	}
	// The subroutines lie behind the DICT that says so: its size is the same with any number there.
	size := len(private) + len(entry(opLocal, 0))
	return made{private: slices.Concat(private, entry(opLocal, size)), local: m.index(f.Local...)}
}

// lay is all that is ahead of the parts, if these begin at an offset, and the parts.
func (m *maker) lay(start int) ([]byte, []byte) {
	w := wire.To(api.MaxFile)
	put := func(part []byte) int {
		at := start + w.Len()
		w.Data(part)
		return at
	}
	top := slices.Concat(entry(opCharset, put(m.names)), entry(opCodes, put(m.codes)))
	var dicts [][]byte
	for _, f := range m.families {
		dicts = append(dicts, entry(opPrivate, len(f.private), put(f.private)))
		put(f.local)
	}
	if len(m.selection) == 0 {
		top = slices.Concat(top, dicts[0])
	} else {
		selection := entry(opSelection, put(m.selection))
		families := entry(opFamilies, put(m.index(dicts...)))
		top = slices.Concat(entry(opSelected, 0, 0, 0), top, families, selection)
	}
	parts, e := w.Done()
	m.long = m.long || e != api.OK
	head := []byte{versionOne, 0, headLen, headLen}
	return slices.Concat(head, m.index([]byte(fontName)), m.index(top), m.index(), m.global), parts
}

// entry is an operator of a DICT behind its operands. These are never short, so that a DICT is as long before it is known what they are.
func entry(op int, numbers ...int) []byte {
	w := wire.To(api.MaxFile)
	for _, x := range numbers {
		w.U8(longNumber).U32(x)
	}
	if op >= escaped {
		w.U8(escape)
	}
	b, _ := w.U8(op).Done() // there is room for so few
	return b
}
