package cff_test

import (
	"slices"
)

// Operators of DICTs.
const (
	opCharset   = 15
	opCodes     = 17
	opPrivate   = 18
	opLocal     = 19
	opDefault   = 20
	opNominal   = 21
	opForm      = 3072 + 6
	opSelected  = 3072 + 30
	opFamilies  = 3072 + 36
	opSelection = 3072 + 37
)

func list[T any](l ...T) []T { return l }

// texts is lists of bytes.
func texts(l ...string) [][]byte {
	var all [][]byte
	for _, x := range l {
		all = append(all, []byte(x))
	}
	return all
}

// number is a number of that many bytes.
func number(x, width int) []byte {
	b := make([]byte, width)
	for i := range b {
		b[width-1-i] = byte(x)
		x >>= 8
	}
	return b
}

// indexOf is the INDEX of these lists, its offsets as short as can be.
func indexOf(l ...[]byte) []byte {
	if len(l) == 0 {
		return list[byte](0, 0)
	}
	size := 1 + len(slices.Concat(l...))
	width := 1
	for size>>(8*width) > 0 {
		width++
	}
	b := append(number(len(l), 2), byte(width))
	end := 1
	b = append(b, number(end, width)...)
	for _, x := range l {
		end += len(x)
		b = append(b, number(end, width)...)
	}
	return append(b, slices.Concat(l...)...)
}

// entry is an operator behind its operands, each of five bytes.
func entry(op int, numbers ...int) []byte {
	var b []byte
	for _, x := range numbers {
		b = append(append(b, 29), number(x, 4)...)
	}
	return append(b, operator(op)...)
}

// realNumber is an operand told as half bytes, two a byte: _ is E and a minus.
func realNumber(halves string) []byte {
	b := list[byte](30)
	half := func(c byte) byte { return byte(slices.Index([]byte("0123456789.E_?-f"), c)) }
	for i := 0; i < len(halves); i += 2 {
		b = append(b, half(halves[i])<<4|half(halves[i+1]))
	}
	return b
}

// realEntry is an operator behind such a number.
func realEntry(op int, halves string) []byte { return append(realNumber(halves), operator(op)...) }

func operator(op int) []byte {
	if op >= 3072 {
		return list(12, byte(op-3072))
	}
	return list(byte(op))
}

// places is where parts lie, by their names. "end" is how many bytes there are.
type places map[string]int

// part is bytes that lie behind the first four INDEXes.
type part struct {
	name string
	data []byte
}

// sheet is a table that is put together by hand. What is told of places is asked for twice: first, to learn how long it is, when none is known.
type sheet struct {
	head   []byte
	names  [][]byte
	top    func(at places) []byte
	tops   [][]byte // behind that one
	texts  [][]byte
	global [][]byte
	parts  func(at places) []part
}

func (s sheet) bytes() []byte {
	b, _ := s.layout()
	return b
}

// layout is the bytes, and where their parts lie.
func (s sheet) layout() ([]byte, places) {
	at := places{}
	var b []byte
	for range 2 {
		tops := append(list(s.top(at)), s.tops...)
		b = slices.Concat(s.head, indexOf(s.names...), indexOf(tops...), indexOf(s.texts...), indexOf(s.global...))
		for _, p := range s.parts(at) {
			at[p.name] = len(b)
			b = append(b, p.data...)
		}
		at["end"] = len(b)
	}
	return b, at
}

// dash has no width of its own, square has; bare draws nothing.
var (
	dash   = []byte{139, 139, 21, 239, 6, 14}
	square = []byte{149, 140, 140, 21, 189, 189, 89, 7, 14}
	bare   = []byte{14}
)

// plainSheet is a table of one family that has no private DICT.
func plainSheet(codes ...[]byte) sheet {
	return sheet{
		head:  list[byte](1, 0, 4, 4),
		names: texts("F"),
		top:   func(at places) []byte { return entry(opCodes, at["codes"]) },
		parts: func(at places) []part { return list(part{"codes", indexOf(codes...)}) },
	}
}

// with is a table with more in its top DICT, and more parts.
func (s sheet) with(top func(at places) []byte, parts func(at places) []part) sheet {
	oldTop, oldParts := s.top, s.parts
	if top != nil {
		s.top = func(at places) []byte { return slices.Concat(oldTop(at), top(at)) }
	}
	if parts != nil {
		s.parts = func(at places) []part { return append(oldParts(at), parts(at)...) }
	}
	return s
}

// entries is a table with more in its top DICT, whatever the places.
func (s sheet) entries(l ...[]byte) sheet {
	return s.with(func(places) []byte { return slices.Concat(l...) }, nil)
}

// private is a table with a private DICT for its one family, and what lies behind that.
func (s sheet) private(dict func(at places) []byte, behind ...part) sheet {
	return s.with(func(at places) []byte {
		return entry(opPrivate, len(dict(at)), at["private"])
	}, func(at places) []part {
		return append(list(part{"private", dict(at)}), behind...)
	})
}

// selected is a table of families: their DICTs, the selection's bytes, and what lies behind.
func (s sheet) selected(dicts func(at places) [][]byte, selection []byte, behind ...part) sheet {
	return s.with(func(at places) []byte {
		return slices.Concat(entry(opSelected, 0, 0, 0), entry(opFamilies, at["dicts"]), entry(opSelection, at["selection"]))
	}, func(at places) []part {
		return append(behind, part{"selection", selection}, part{"dicts", indexOf(dicts(at)...)})
	})
}

// oneFamily is a table with all that one family has.
func oneFamily() sheet {
	private := func(at places) []byte {
		return slices.Concat(entry(opDefault, 500), entry(opNominal, -600), entry(opLocal, at["local"]-at["private"]))
	}
	s := plainSheet(dash, square, bare).private(private, part{"local", indexOf(texts("\x0B", "", "\x8B\x0B")...)})
	s.head = list[byte](1, 7, 6, 9, 77, 88)
	s.texts = texts("one", "", "two")
	s.global = texts("\x0B", "\x95\x06\x0B")
	return s.with(func(at places) []byte {
		return slices.Concat(entry(opForm, 2), entry(opCharset, at["charset"]))
	}, func(at places) []part {
		return list(part{"charset", list[byte](1, 1, 44, 1)})
	})
}

// twoFamilies is a table with two families: that of the last two glyphs comes first, and has no private DICT; that of the others has its subroutines ahead of it.
func twoFamilies() sheet {
	private := func(at places) []byte {
		return slices.Concat(entry(opLocal, at["local"]-at["private"]), entry(opDefault, 300))
	}
	s := plainSheet(bare, dash, square, bare)
	s.global = texts("\x0B")
	return s.with(func(at places) []byte { return entry(opCharset, at["charset"]) }, func(at places) []part {
		return list(
			part{"local", indexOf(texts("\x95\x06\x0B", "\x0B")...)},
			part{"private", private(at)},
			part{"charset", list[byte](0, 0, 5, 0, 4, 1, 3)},
		)
	}).selected(func(at places) [][]byte {
		return list(nil, entry(opPrivate, len(private(at)), at["private"]))
	}, list[byte](3, 0, 2, 0, 0, 1, 0, 2, 0, 0, 4))
}

// samples is tables that may be.
func samples() []sheet {
	small := func(places) []byte { return list[byte](149, 20, 239, 21) }
	return []sheet{
		plainSheet(dash),
		plainSheet(bare, dash, square),
		plainSheet(dash, square).private(small),
		oneFamily(),
		twoFamilies(),
		plainSheet(bare, dash).selected(func(places) [][]byte { return list(entry(opForm, 1)) }, list[byte](0, 0, 0)),
	}
}
