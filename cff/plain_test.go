package cff_test

import (
	"serif/api"
	"serif/charset"
	"serif/dict"
)

// plain is a table as the chapter tells it, part by part.
type plain struct {
	codes    [][]byte
	names    []int
	members  []int
	global   [][]byte
	families []api.Family
}

// asIsPlain is what bytes should be loaded as.
func asIsPlain(b []byte) (*plain, api.Errno) {
	if len(b) >= 1 && b[0] == 2 {
		return nil, api.ErrCff2
	}
	p := plainTable(b)
	if p == nil {
		return nil, api.ErrCff
	}
	return p, api.OK
}

// plainIndex is an INDEX' lists, and where it ends; or -1.
func plainIndex(b []byte, at int) ([][]byte, int) {
	if at < 0 || at+2 > len(b) {
		return nil, -1
	}
	n := 256*int(b[at]) + int(b[at+1])
	if n == 0 {
		return nil, at + 2
	}
	if at+3 > len(b) {
		return nil, -1
	}
	width := int(b[at+2])
	if width == 0 || width > 4 || at+3+(n+1)*width > len(b) {
		return nil, -1
	}
	offset := func(i int) int {
		x := 0
		for _, c := range b[at+3+i*width : at+3+(i+1)*width] {
			x = 256*x + int(c)
		}
		return x
	}
	if offset(0) != 1 {
		return nil, -1
	}
	var l [][]byte
	base := at + 3 + (n+1)*width - 1
	for i := range n {
		if offset(i) > offset(i+1) || base+offset(i+1) > len(b) {
			return nil, -1
		}
		l = append(l, b[base+offset(i):base+offset(i+1)])
	}
	return l, base + offset(n)
}

// plainDict is the operands of each operator's last entry, and whether there is a DICT.
func plainDict(b []byte) (map[int][]int, bool) {
	l, e := dict.Parse(b)
	last := map[int][]int{}
	for _, x := range l {
		last[x.Op] = x.Args
	}
	return last, e == api.OK
}

// whole is a DICT's number, other if there is none; refused, if it may not be.
const refused = -1 << 40

func whole(d map[int][]int, op, other int) int {
	l, has := d[op]
	if !has {
		return other
	}
	if len(l) != 1 || l[0]&0xFFFF != 0 {
		return refused
	}
	return l[0] >> 16
}

func plainTable(b []byte) *plain {
	if len(b) < 4 || b[0] != 1 || b[2] < 4 {
		return nil
	}
	names, at := plainIndex(b, int(b[2]))
	if at < 0 || len(names) != 1 {
		return nil
	}
	tops, at := plainIndex(b, at)
	if at < 0 || len(tops) != 1 {
		return nil
	}
	_, at = plainIndex(b, at)
	if at < 0 {
		return nil
	}
	p := &plain{}
	p.global, at = plainIndex(b, at)
	if at < 0 {
		return nil
	}
	top, may := plainDict(tops[0])
	if !may || whole(top, opForm, 2) != 2 {
		return nil
	}
	p.codes, at = plainIndex(b, whole(top, opCodes, -1))
	if at < 0 || len(p.codes) == 0 {
		return nil
	}
	if !p.readNames(b, whole(top, opCharset, 0)) || !p.readFamilies(b, top) {
		return nil
	}
	return p
}

func (p *plain) readNames(b []byte, at int) bool {
	n := len(p.codes)
	if at == 0 {
		for i := range n {
			p.names = append(p.names, i)
		}
		return n <= 229
	}
	if at == 1 || at == 2 || at < 0 || at > len(b) {
		return false
	}
	var e api.Errno
	p.names, e = charset.Load(b[at:], n)
	return e == api.OK
}

func (p *plain) readFamilies(b []byte, top map[int][]int) bool {
	n := len(p.codes)
	if _, has := top[opSelected]; !has {
		p.members = make([]int, n)
		return p.readFamily(b, top)
	}
	dicts, end := plainIndex(b, whole(top, opFamilies, -1))
	if end < 0 || len(dicts) == 0 || len(dicts) > 256 {
		return false
	}
	for _, x := range dicts {
		d, may := plainDict(x)
		if !may || !p.readFamily(b, d) {
			return false
		}
	}
	at := whole(top, opSelection, -1)
	if at < 0 || at > len(b) {
		return false
	}
	var e api.Errno
	p.members, e = charset.Select(b[at:], n, len(dicts))
	return e == api.OK
}

func (p *plain) readFamily(b []byte, d map[int][]int) bool {
	pair, has := d[opPrivate]
	if !has {
		p.families = append(p.families, api.Family{})
		return true
	}
	if len(pair) != 2 || pair[0]&0xFFFF != 0 || pair[1]&0xFFFF != 0 {
		return false
	}
	size, at := pair[0]>>16, pair[1]>>16
	if size < 0 || at < 0 || at > len(b) || size > len(b)-at {
		return false
	}
	private, may := plainDict(b[at : at+size])
	f := api.Family{Default: whole(private, opDefault, 0), Nominal: whole(private, opNominal, 0)}
	if !may || f.Default == refused || f.Nominal == refused {
		return false
	}
	if _, has := private[opLocal]; has {
		x := whole(private, opLocal, 0)
		if x == refused {
			return false
		}
		var end int
		f.Local, end = plainIndex(b, at+x)
		if end < 0 {
			return false
		}
	}
	p.families = append(p.families, f)
	return true
}

// program is a glyph's.
func (p *plain) program(glyph int, draws []int) api.Program {
	f := p.families[p.members[glyph]]
	return api.Program{Code: p.codes[glyph], Global: p.global, Local: f.Local, Default: 65536 * f.Default, Nominal: 65536 * f.Nominal, Draws: draws}
}
