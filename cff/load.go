package cff

import (
	"serif/api"
	"serif/charset"
	"serif/dict"
	"serif/index"
	"serif/wire"
)

// Versions of tables: the first one is read, the second one refused by a name of its own.
const (
	versionOne = 1
	versionTwo = 2
)

// headLen is how many bytes a table's head has, at least.
const headLen = 4

// Operators of DICTs. Those from escaped on have two bytes.
const (
	opCharset   = 15
	opCodes     = 17
	opPrivate   = 18
	opLocal     = 19
	opDefault   = 20
	opNominal   = 21
	opForm      = escaped + 6
	opSelected  = escaped + 30
	opFamilies  = escaped + 36
	opSelection = escaped + 37
	escaped     = 12 << 8
)

// formTwo is the form of charstrings that are read.
const formTwo = 2

// Charsets that do not stand in the table. Of the standard one glyph i has name i; the other two are not read.
const (
	standardSet   = 0
	standardNames = 229
	expertSet     = 1
	expertSubset  = 2
)

// nowhere is the offset of what must be there, and is not: no offset may be that.
const nowhere = -1

// Load is the table that bytes begin with.
func Load(b []byte) (*Font, api.Errno) {
	if len(b) > 0 && b[0] == versionTwo {
		return nil, api.ErrCff2
	}
	s := &source{b: b, locals: map[int][][]byte{}}
	f := s.font()
	if s.wrong {
		return nil, api.ErrCff
	}
	return f, api.OK
}

// source is the bytes of a table that is read. From the first thing on that is wrong there are none.
type source struct {
	b      []byte
	wrong  bool
	locals map[int][][]byte // by their offsets: families may have the same subroutines
}

// must notes whether something is wrong.
func (s *source) must(right bool) { s.wrong = s.wrong || !right }

// from is the bytes from an offset on.
func (s *source) from(at int) []byte {
	s.must(at >= 0 && at <= len(s.b))
	if s.wrong {
		return nil
	}
	return s.b[at:]
}

// part is n bytes from an offset on.
func (s *source) part(at, n int) []byte {
	b := s.from(at)
	s.must(n >= 0 && n <= len(b))
	if s.wrong {
		return nil
	}
	return b[:n]
}

// index is the INDEX at an offset; nil, which has no lists, if something is wrong.
func (s *source) index(at int) *index.Index {
	x, e := index.Load(s.from(at))
	s.must(e == api.OK)
	return x
}

// entries is what a DICT has.
func (s *source) entries(b []byte) []api.Entry {
	l, e := dict.Parse(b)
	s.must(e == api.OK)
	return l
}

// numbers is what tells a DICT's numbers by their operators, others where there are none, and notes whether a number may not be.
func (s *source) numbers(l []api.Entry) func(op, other int) int {
	return func(op, other int) int {
		x, e := dict.Number(l, op, other)
		s.must(e == api.OK)
		return x
	}
}

// font is the whole table.
func (s *source) font() *Font {
	var first [4]*index.Index
	at := s.head()
	for i := range first {
		first[i] = s.index(at)
		at += first[i].Size()
	}
	names, tops, global := first[0], first[1], first[3]
	s.must(names.Len() == 1 && tops.Len() == 1)
	b, _ := tops.At(0) // no bytes, if it is not there
	top := s.entries(b)
	number := s.numbers(top)
	s.must(number(opForm, formTwo) == formTwo)
	codes := s.index(number(opCodes, nowhere))
	s.must(codes.Len() > 0)
	f := &Font{codes: lists(codes), global: lists(global)}
	f.names = s.names(number(opCharset, standardSet), codes.Len())
	f.families, f.members = s.families(top, codes.Len())
	return f
}

// head is where the first INDEX begins.
func (s *source) head() int {
	r := wire.New(s.part(0, headLen))
	version := r.U8()
	r.U8()
	length := r.U8()
	s.must(version == versionOne && length >= headLen)
	return length
}

// names is the names of n glyphs.
func (s *source) names(at, n int) []int {
	if at == standardSet {
		s.must(n <= standardNames)
		var l []int
		for glyph := range n {
			l = append(l, glyph)
		}
		return l
	}
	s.must(at != expertSet && at != expertSubset)
	l, e := charset.Load(s.from(at), n)
	s.must(e == api.OK)
	return l
}

// families is all families, and which one each of n glyphs belongs to.
func (s *source) families(top []api.Entry, n int) ([]api.Family, []int) {
	if _, selected := dict.Get(top, opSelected); !selected {
		return []api.Family{s.family(top)}, make([]int, n)
	}
	number := s.numbers(top)
	dicts := s.index(number(opFamilies, nowhere))
	// The selection comes first, since it refuses too many families: each of them may be long to read.
	members, e := charset.Select(s.from(number(opSelection, nowhere)), n, dicts.Len())
	s.must(e == api.OK)
	var l []api.Family
	for _, b := range dicts.All() {
		if s.wrong {
			break
		}
		l = append(l, s.family(s.entries(b)))
	}
	return l, members
}

// family is the family of a DICT, which may have no private one.
func (s *source) family(l []api.Entry) api.Family {
	args, has := dict.Get(l, opPrivate)
	if !has {
		return api.Family{}
	}
	size, at := s.pair(args)
	private := s.entries(s.part(at, size))
	number := s.numbers(private)
	f := api.Family{Default: number(opDefault, 0), Nominal: number(opNominal, 0)}
	if _, has := dict.Get(private, opLocal); has {
		f.Local = s.local(at + number(opLocal, 0))
	}
	return f
}

// pair is two operands that are whole numbers.
func (s *source) pair(args []int) (int, int) {
	if len(args) != 2 || args[0]%api.One16 != 0 || args[1]%api.One16 != 0 {
		s.must(false)
		return 0, 0
	}
	return args[0] / api.One16, args[1] / api.One16
}

// local is the subroutines at an offset.
func (s *source) local(at int) [][]byte {
	l, has := s.locals[at]
	if !has {
		l = lists(s.index(at))
		s.locals[at] = l
	}
	return l
}

// lists is an INDEX' lists.
func lists(x *index.Index) [][]byte {
	var l [][]byte
	for _, list := range x.All() {
		l = append(l, list)
	}
	return l
}
