package cmap_test

import (
	"bytes"
	"math"
	"math/rand"
	"slices"
	"testing"

	"serif/api"
	"serif/charmap"
	"serif/cmap"
)

// twos is numbers of 2 bytes, one behind the other.
func twos(l ...int) []byte {
	var b []byte
	for _, x := range l {
		b = append(b, byte(x>>8), byte(x))
	}
	return b
}

func two(b []byte, at int) int  { return int(b[at])<<8 | int(b[at+1]) }
func four(b []byte, at int) int { return two(b, at)<<16 | two(b, at+2) }

// setTwo puts a number into bytes.
func setTwo(b []byte, at, x int) { copy(b[at:], twos(x)) }

// table is a table of these entries, and what follows them.
func table(l []api.Encoding, rest ...byte) []byte {
	b := twos(0, len(l))
	for _, x := range l {
		b = append(b, twos(x.Platform, x.Encoding, x.Off>>16, x.Off)...)
	}
	return append(b, rest...)
}

// sub is a subtable in which code point 65 has a glyph.
func sub(t *testing.T, format, glyph int) []byte {
	t.Helper()
	b, e := charmap.Make(format, []api.Pair{{Code: 65, Glyph: glyph}})
	if e != api.OK {
		t.Fatal("Make", format, glyph, e)
	}
	return b
}

// at is an entry whose offset is still to be told.
func at(platform, encoding int) api.Encoding {
	return api.Encoding{Platform: platform, Encoding: encoding}
}

// laid is a table of these subtables, one behind the other, not padded.
func laid(l []api.Encoding, subs ...[]byte) ([]byte, []api.Encoding) {
	l = slices.Clone(l)
	off := 4 + 8*len(l)
	var rest []byte
	for i := range l {
		l[i].Off = off + len(rest)
		rest = append(rest, subs[i]...)
	}
	return table(l, rest...), l
}

// rankPlainly is the chapter's list of ranks.
func rankPlainly(platform, encoding int) int {
	ranks := map[[2]int]int{{3, 10}: 1, {0, 6}: 2, {0, 4}: 3, {3, 1}: 4, {0, 3}: 5, {0, 2}: 6, {0, 1}: 7, {0, 0}: 8, {1, 0}: 9, {3, 0}: 10}
	return ranks[[2]int{platform, encoding}]
}

// listPlainly is the subtables of a table as the chapter has them, and whether there is a table.
func listPlainly(b []byte) ([]api.Encoding, bool) {
	if len(b) < 4 || two(b, 0) != 0 {
		return nil, false
	}
	k := two(b, 2)
	if k < 1 || k > 64 || len(b) < 4+8*k {
		return nil, false
	}
	var l []api.Encoding
	for i := range k {
		x := api.Encoding{Platform: two(b, 4+8*i), Encoding: two(b, 6+8*i), Off: four(b, 8+8*i)}
		if x.Off < 4+8*k || x.Off >= len(b) {
			return nil, false
		}
		for _, y := range l {
			if y.Platform > x.Platform || y.Platform == x.Platform && y.Encoding >= x.Encoding {
				return nil, false
			}
		}
		l = append(l, x)
	}
	return l, true
}

// bestPlainly is the subtable that counts, as the chapter has it.
func bestPlainly(b []byte) (api.Encoding, bool) {
	l, may := listPlainly(b)
	best, least := api.Encoding{}, 11
	for _, x := range l {
		if !may || len(b) < x.Off+2 || !slices.Contains([]int{0, 4, 6, 12}, two(b, x.Off)) {
			continue
		}
		if r := rankPlainly(x.Platform, x.Encoding); r != 0 && r < least {
			best, least = x, r
		}
	}
	return best, least < 11
}

func lists(t *testing.T, b []byte, want []api.Encoding) {
	t.Helper()
	if l, e := cmap.List(b); e != api.OK || !slices.Equal(l, want) {
		t.Errorf("List of %d bytes %.80v: %v %d, want %v", len(b), b, l, e, want)
	}
}

func listsNot(t *testing.T, b []byte) {
	t.Helper()
	if l, e := cmap.List(b); e != api.ErrCmap || len(l) != 0 {
		t.Errorf("List of %d bytes %.80v: %v %d, want %d", len(b), b, l, e, api.ErrCmap)
	}
	loadsNot(t, b, 9, api.ErrCmap)
}

// loads asks that the subtable at a place is loaded: its glyphs are those of its bytes alone.
func loads(t *testing.T, b []byte, n int, want api.Encoding) {
	t.Helper()
	m, x, e := cmap.Load(b, n)
	if e != api.OK || m == nil || x != want {
		t.Fatalf("Load of %d bytes %.80v, %d: %v %v %d, want %v", len(b), b, n, m, x, e, want)
	}
	alone, e := charmap.Load(b[want.Off:], n)
	if e != api.OK || m.Format() != alone.Format() || m.Format() != two(b, want.Off) {
		t.Errorf("%.80v: format %d, of %v %d %d", b, m.Format(), want, alone.Format(), e)
	}
	have, all := slices.Collect(m.All(0, api.LastCode+1)), slices.Collect(alone.All(0, api.LastCode+1))
	if !slices.Equal(have, all) {
		t.Errorf("%.80v: %v, want %v", b, have, all)
	}
}

func loadsNot(t *testing.T, b []byte, n int, want api.Errno) {
	t.Helper()
	if m, x, e := cmap.Load(b, n); m != nil || x != (api.Encoding{}) || e != want {
		t.Errorf("Load of %d bytes %.80v, %d: %v %v %d, want %d", len(b), b, n, m, x, e, want)
	}
}

// far are numbers that are none of a table's.
func far() []int {
	return []int{-1, -3, 65536, 65536 + 3, 1<<32 + 3, 1<<32 + 1, math.MinInt, math.MinInt + 3, math.MaxInt}
}

func TestExampleOfCmap(t *testing.T) {
	l := []api.Subtable{{Platform: 1, Encoding: 0, Data: sub(t, 0, 5)}, {Platform: 3, Encoding: 1, Data: sub(t, 4, 6)}}
	b, e := cmap.Build(l)
	if e != api.OK {
		t.Fatal(e)
	}
	m, x, e := cmap.Load(b, 9)
	if e != api.OK || x != (api.Encoding{Platform: 3, Encoding: 1, Off: 20 + 264}) || m.Format() != 4 || m.Glyph(65) != 6 {
		t.Error(x, e)
	}
}

func TestRank(t *testing.T) {
	some := append(far(), 0, 1, 2, 3, 4, 5, 6, 7, 8, 9, 10, 11, 12, 255, 256, 257, 65535)
	count := 0
	for _, platform := range some {
		for _, encoding := range some {
			want := rankPlainly(platform, encoding)
			if r := cmap.Rank(platform, encoding); r != want {
				t.Errorf("Rank(%d, %d): %d, want %d", platform, encoding, r, want)
			}
			if want != 0 {
				count++
			}
		}
	}
	if count != 10 {
		t.Error(count)
	}
}

func TestList(t *testing.T) {
	for _, k := range []int{1, 2, 3, 63, 64} {
		var l []api.Encoding
		for i := range k {
			l = append(l, api.Encoding{Platform: i / 3, Encoding: i, Off: 4 + 8*k + (7*i)%5})
		}
		lists(t, table(l, 1, 2, 3, 4, 5), l)
		lists(t, table(l, make([]byte, 70000)...), l)
		b := table(l, 1, 2, 3, 4, 5)
		for less := range 4 + 8*k + 1 {
			listsNot(t, b[:less])
		}
	}
	listsNot(t, nil)
	listsNot(t, []byte{})
	greatest := []api.Encoding{{Platform: 65535, Encoding: 65535, Off: 12}}
	lists(t, table(greatest, 0), greatest)
}

// TestVersionsAndCounts tells each of these two numbers.
func TestVersionsAndCounts(t *testing.T) {
	l := []api.Encoding{{Platform: 0, Encoding: 3, Off: 600}, {Platform: 0, Encoding: 4, Off: 601}, {Platform: 1, Encoding: 0, Off: 602}}
	b := table(l, make([]byte, 700)...)
	for version := range 1 << 16 {
		setTwo(b, 0, version)
		if version == 0 {
			lists(t, b, l)
		} else if l, e := cmap.List(b); e != api.ErrCmap || len(l) != 0 {
			t.Fatal(version, l, e)
		}
	}
	setTwo(b, 0, 0)
	for k := range 1 << 16 {
		setTwo(b, 2, k)
		if k >= 1 && k <= 3 {
			lists(t, b, l[:k])
		} else if l, e := cmap.List(b); e != api.ErrCmap || len(l) != 0 {
			t.Fatal(k, l, e)
		}
	}
	var many []api.Encoding
	for i := range 65 {
		many = append(many, api.Encoding{Platform: 3, Encoding: i, Off: 600})
	}
	lists(t, table(many[:64], make([]byte, 700)...), many[:64])
	listsNot(t, table(many, make([]byte, 700)...))
}

// TestOrderOfPlaces: subtables rise by platform, then by encoding, and none is there twice.
func TestOrderOfPlaces(t *testing.T) {
	var all []api.Encoding
	for _, platform := range []int{0, 1, 65535} {
		for _, encoding := range []int{0, 1, 65535} {
			all = append(all, at(platform, encoding))
		}
	}
	for i, x := range all {
		for j, y := range all {
			b, l := laid([]api.Encoding{x, y}, []byte{1}, []byte{2})
			if i < j {
				lists(t, b, l)
			} else {
				listsNot(t, b)
			}
			for k, z := range all {
				b, l := laid([]api.Encoding{x, y, z}, []byte{1}, []byte{2}, []byte{3})
				if i < j && j < k {
					lists(t, b, l)
				} else {
					listsNot(t, b)
				}
			}
		}
	}
}

// TestOffsets tells each offset of each subtable.
func TestOffsets(t *testing.T) {
	for k := 1; k <= 4; k++ {
		var l []api.Encoding
		for i := range k {
			l = append(l, api.Encoding{Platform: 3, Encoding: i, Off: 4 + 8*k})
		}
		for rest := 1; rest <= 6; rest++ {
			for i := range k {
				for _, off := range []int{1 << 16, 1 << 24, 1<<31 - 1, 1 << 31, 1<<32 - 1} {
					told := slices.Clone(l)
					told[i].Off = off
					listsNot(t, table(told, make([]byte, rest)...))
				}
				for off := range 50 {
					told := slices.Clone(l)
					told[i].Off = off
					if b := table(told, make([]byte, rest)...); off >= 4+8*k && off < len(b) {
						lists(t, b, told)
					} else {
						listsNot(t, b)
					}
				}
			}
		}
	}
	l := []api.Encoding{{Platform: 3, Encoding: 1, Off: 1<<17 + 11}}
	lists(t, table(l, make([]byte, 1<<17)...), l)
	listsNot(t, table(l, make([]byte, 1<<17-1)...))
}

// TestLeastRank loads each two, and all, of the subtables that have a rank.
func TestLeastRank(t *testing.T) {
	places := []api.Encoding{at(0, 0), at(0, 1), at(0, 2), at(0, 3), at(0, 4), at(0, 5), at(0, 6), at(1, 0), at(1, 1), at(2, 0), at(3, 0), at(3, 1), at(3, 2), at(3, 10), at(4, 10)}
	check := func(l ...api.Encoding) {
		var subs [][]byte
		for i := range l {
			subs = append(subs, sub(t, []int{4, 12, 6, 0}[i%4], i+1))
		}
		b, l := laid(l, subs...)
		best, counts := bestPlainly(b)
		if counts {
			loads(t, b, 90, best)
			m, _, _ := cmap.Load(b, 90)
			if want := slices.Index(l, best) + 1; m.Glyph(65) != want {
				t.Error(l, m.Glyph(65), want)
			}
		} else {
			loadsNot(t, b, 90, api.ErrCmap)
		}
	}
	for i, x := range places {
		check(x)
		for j, y := range places[i+1:] {
			check(x, y)
			for _, z := range places[i+1+j+1:] {
				check(x, y, z)
			}
		}
	}
	check(places...)
	for drop := range places {
		check(slices.Delete(slices.Clone(places), drop, drop+1)...)
	}
}

// TestFormatsThatAreNotRead: such a subtable does not count, whatever its rank; where no other does, none does.
func TestFormatsThatAreNotRead(t *testing.T) {
	for format := range 1 << 16 {
		if slices.Contains([]int{0, 4, 6, 12}, format) {
			continue
		}
		other := append(twos(format), make([]byte, 20)...)
		b, l := laid([]api.Encoding{at(1, 0), at(3, 10)}, sub(t, 6, 7), other)
		if m, x, e := cmap.Load(b, 9); e != api.OK || x != l[0] || m.Glyph(65) != 7 {
			t.Fatal(format, x, e)
		}
		b, _ = laid([]api.Encoding{at(3, 10)}, other)
		if m, x, e := cmap.Load(b, 9); e != api.ErrCmap || m != nil || x != (api.Encoding{}) {
			t.Fatal(format, x, e)
		}
	}
	b, l := laid([]api.Encoding{at(0, 4), at(0, 5), at(0, 6), at(3, 1), at(3, 10)}, twos(2, 0), sub(t, 12, 3), twos(14, 0), sub(t, 4, 2), twos(13, 0))
	loads(t, b, 9, l[3])
}

// TestSubtablesWithoutAFormat: of one byte alone there is no format, so it does not count.
func TestSubtablesWithoutAFormat(t *testing.T) {
	for _, last := range []byte{0, 4, 12} {
		b, l := laid([]api.Encoding{at(3, 1), at(3, 10)}, sub(t, 4, 5), []byte{last})
		loads(t, b, 9, l[0])
		b, _ = laid([]api.Encoding{at(3, 10)}, []byte{last})
		loadsNot(t, b, 9, api.ErrCmap)
		b, _ = laid([]api.Encoding{at(3, 10)}, []byte{0, last})
		loadsNot(t, b, 9, api.ErrMap)
	}
}

// TestTheOneThatCountsIsNone: it is refused, though others that have a rank may be; those that do not count may be anything.
func TestTheOneThatCountsIsNone(t *testing.T) {
	for _, format := range []int{0, 4, 6, 12} {
		bad := twos(format, 9, 9, 9)
		b, _ := laid([]api.Encoding{at(0, 3), at(3, 1)}, sub(t, 4, 5), bad)
		loadsNot(t, b, 9, api.ErrMap)
		b, l := laid([]api.Encoding{at(0, 3), at(3, 1)}, bad, sub(t, 4, 5))
		loads(t, b, 9, l[1])
		b, l = laid([]api.Encoding{at(0, 5), at(3, 1)}, bad, sub(t, 4, 5))
		loads(t, b, 9, l[1])
		b, _ = laid([]api.Encoding{at(1, 1), at(4, 4)}, bad, bad)
		loadsNot(t, b, 9, api.ErrCmap)
		whole := sub(t, format, 5)
		for less := 2; less < len(whole); less++ {
			b, _ = laid([]api.Encoding{at(0, 0)}, whole[:less])
			loadsNot(t, b, 9, api.ErrMap)
		}
		b, l = laid([]api.Encoding{at(0, 0)}, whole)
		loads(t, b, 9, l[0])
	}
}

// TestSubtablesReachOn: a subtable's bytes are all from its offset on, also those at which others begin.
func TestSubtablesReachOn(t *testing.T) {
	whole := sub(t, 6, 5)
	l := []api.Encoding{{Platform: 0, Encoding: 3, Off: 24}, {Platform: 3, Encoding: 1, Off: 20}}
	b := table(l, whole...)
	loads(t, b, 9, l[1])
	l = []api.Encoding{{Platform: 1, Encoding: 0, Off: 20}, {Platform: 3, Encoding: 0, Off: 20}}
	loads(t, table(l, whole...), 9, l[0])
	l = []api.Encoding{{Platform: 0, Encoding: 0, Off: 32}, {Platform: 3, Encoding: 10, Off: 20}}
	loads(t, table(l, append(slices.Clone(whole), whole...)...), 9, l[1])
}

// TestCountsOfGlyphs: how many glyphs there are is looked at ahead of the bytes, and handed on.
func TestCountsOfGlyphs(t *testing.T) {
	good, l := laid([]api.Encoding{at(3, 1)}, sub(t, 4, 7))
	broken, _ := laid([]api.Encoding{at(3, 1)}, twos(4, 9))
	for _, b := range [][]byte{nil, {1}, good, broken, twos(1, 1)} {
		for _, n := range []int{0, -1, api.MaxGlyphs + 1, 1<<32 + 1, math.MinInt, math.MaxInt} {
			loadsNot(t, b, n, api.ErrArg)
		}
	}
	for _, n := range []int{1, 2, 7, 8, 9, api.MaxGlyphs} {
		loads(t, good, n, l[0])
		want := 7
		if n <= 7 {
			want = 0
		}
		if m, _, _ := cmap.Load(good, n); m.Glyph(65) != want {
			t.Error(n, m.Glyph(65), want)
		}
	}
}

// tablePlainly is the table of subtables, as the chapter has it.
func tablePlainly(l []api.Subtable) ([]byte, []api.Encoding) {
	l = slices.Clone(l)
	slices.SortFunc(l, func(x, y api.Subtable) int { return x.Platform<<16 + x.Encoding - y.Platform<<16 - y.Encoding })
	var places []api.Encoding
	var rest []byte
	for _, x := range l {
		places = append(places, api.Encoding{Platform: x.Platform, Encoding: x.Encoding, Off: 4 + 8*len(l) + len(rest)})
		rest = append(rest, x.Data...)
		for len(rest)%4 != 0 {
			rest = append(rest, 0)
		}
	}
	return table(places, rest...), places
}

// builds asks that subtables make a table as it is reckoned plainly, which is listed, with each subtable's bytes at its place.
func builds(t *testing.T, l []api.Subtable) []byte {
	t.Helper()
	want, places := tablePlainly(l)
	b, e := cmap.Build(l)
	if e != api.OK || !bytes.Equal(b, want) {
		t.Fatalf("Build of %d subtables: %d bytes %.80v %d, want %d bytes %.80v", len(l), len(b), b, e, len(want), want)
	}
	lists(t, b, places)
	for _, p := range places {
		i := slices.IndexFunc(l, func(x api.Subtable) bool { return x.Platform == p.Platform && x.Encoding == p.Encoding })
		if !bytes.HasPrefix(b[p.Off:], l[i].Data) {
			t.Errorf("%v is not at its place", p)
		}
	}
	return b
}

func buildsNot(t *testing.T, l []api.Subtable, want api.Errno) {
	t.Helper()
	if b, e := cmap.Build(l); len(b) != 0 || e != want {
		t.Errorf("Build of %d subtables: %d bytes %d, want %d", len(l), len(b), e, want)
	}
}

// someSubtables is n of them, of n lengths, falling.
func someSubtables(n int) []api.Subtable {
	var l []api.Subtable
	for i := range n {
		l = append(l, api.Subtable{Platform: 9 - i/7, Encoding: 65535 - i, Data: bytes.Repeat([]byte{byte(i + 1)}, 1+i)})
	}
	return l
}

func TestBuild(t *testing.T) {
	if b := builds(t, []api.Subtable{{Platform: 3, Encoding: 10, Data: []byte{7, 8, 9}}, {Platform: 0, Encoding: 65535, Data: []byte{6}}}); !bytes.Equal(b, []byte{0, 0, 0, 2, 0, 0, 255, 255, 0, 0, 0, 20, 0, 3, 0, 10, 0, 0, 0, 24, 6, 0, 0, 0, 7, 8, 9, 0}) {
		t.Error(b)
	}
	for n := 1; n <= api.MaxEncodings; n++ {
		builds(t, someSubtables(n))
	}
	for n := 1; n <= 9; n++ {
		builds(t, []api.Subtable{{Platform: 65535, Encoding: 0, Data: make([]byte, n)}, {Platform: 65535, Encoding: 65535, Data: make([]byte, 1)}, {Platform: 0, Encoding: 0, Data: make([]byte, n)}})
	}
	// By platform ahead of encoding, and by numbers, not by bytes.
	builds(t, []api.Subtable{{Platform: 2, Encoding: 1, Data: []byte{1}}, {Platform: 1, Encoding: 2, Data: []byte{2}}, {Platform: 256, Encoding: 0, Data: []byte{3}}, {Platform: 1, Encoding: 256, Data: []byte{4}}})
}

func TestBuildErrors(t *testing.T) {
	buildsNot(t, nil, api.ErrArg)
	buildsNot(t, []api.Subtable{}, api.ErrArg)
	buildsNot(t, someSubtables(api.MaxEncodings+1), api.ErrArg)
	for n := 1; n <= 4; n++ {
		for i := range n {
			for _, x := range far() {
				l := someSubtables(n)
				l[i].Platform = x
				buildsNot(t, l, api.ErrArg)
				l = someSubtables(n)
				l[i].Encoding = x
				buildsNot(t, l, api.ErrArg)
			}
			for _, data := range [][]byte{nil, {}} {
				l := someSubtables(n)
				l[i].Data = data
				buildsNot(t, l, api.ErrArg)
			}
		}
	}
	for n := 2; n <= 5; n++ {
		for i := range n {
			for j := range i {
				l := someSubtables(n)
				l[i].Platform, l[i].Encoding = l[j].Platform, l[j].Encoding
				buildsNot(t, l, api.ErrTwice)
				l[n-1].Data = nil
				buildsNot(t, l, api.ErrArg)
			}
		}
	}
	// The same platform, or the same encoding, alone is not the same.
	builds(t, []api.Subtable{{Platform: 3, Encoding: 1, Data: []byte{1}}, {Platform: 3, Encoding: 3, Data: []byte{1}}, {Platform: 1, Encoding: 3, Data: []byte{1}}})
}

func TestLongestTables(t *testing.T) {
	sizes := func(sizes ...int) []api.Subtable {
		l := someSubtables(len(sizes))
		for i, n := range sizes {
			l[i].Data = bytes.Repeat([]byte{byte(7 + i)}, n)
		}
		return l
	}
	most := api.MaxFile - 12
	for n := most - 5; n <= most; n++ {
		builds(t, sizes(n))
	}
	for n := most + 1; n <= most+14; n++ {
		buildsNot(t, sizes(n), api.ErrLong)
	}
	buildsNot(t, sizes(3*api.MaxFile), api.ErrLong)
	// What is padded counts too.
	builds(t, sizes(most-8-4, 1))
	builds(t, sizes(1, most-8-5))
	buildsNot(t, sizes(most-8-3, 1), api.ErrLong)
	buildsNot(t, sizes(1, most-8-3), api.ErrLong)
	buildsNot(t, sizes(api.MaxFile/2, api.MaxFile/2, 1), api.ErrLong)
	// What is there twice is told ahead of what is too long, what may not be ahead of both.
	l := sizes(api.MaxFile, api.MaxFile)
	l[1].Platform, l[1].Encoding = l[0].Platform, l[0].Encoding
	buildsNot(t, l, api.ErrTwice)
	l[0].Platform = -1
	buildsNot(t, l, api.ErrArg)
	// The same bytes, over and over.
	data := make([]byte, api.MaxFile/64)
	l = someSubtables(64)
	for i := range l {
		l[i].Data = data
	}
	buildsNot(t, l, api.ErrLong)
	for i := range l {
		l[i].Data = data[:len(data)-12]
	}
	builds(t, l)
}

// TestBuiltIsLoaded: of what was built the subtable with the least rank is loaded.
func TestBuiltIsLoaded(t *testing.T) {
	draw := rand.New(rand.NewSource(1))
	for range 3000 {
		var l []api.Subtable
		for _, i := range draw.Perm(28)[:1+draw.Intn(4)] {
			l = append(l, api.Subtable{Platform: i / 7, Encoding: []int{0, 1, 2, 3, 4, 6, 10}[i%7], Data: sub(t, []int{0, 4, 6, 12}[draw.Intn(4)], 1+draw.Intn(200))})
			if draw.Intn(4) == 0 {
				setTwo(l[len(l)-1].Data, 0, []int{2, 8, 10, 13, 14}[draw.Intn(5)])
			}
		}
		b := builds(t, l)
		if best, counts := bestPlainly(b); counts {
			loads(t, b, 300, best)
		} else {
			loadsNot(t, b, 300, api.ErrCmap)
		}
	}
}

// TestTablesAreTheirOwn changes what was handed in, and what was answered.
func TestTablesAreTheirOwn(t *testing.T) {
	b, l := laid([]api.Encoding{at(1, 0), at(3, 1)}, sub(t, 0, 5), sub(t, 4, 6))
	room := append(b, 7, 7, 7)
	were := slices.Clone(room)
	m, _, _ := cmap.Load(room[:len(b)], 9)
	list, _ := cmap.List(room[:len(b)])
	if !bytes.Equal(room, were) {
		t.Error("bytes are changed")
	}
	clear(room)
	if m.Glyph(65) != 6 || !slices.Equal(list, l) {
		t.Error("bytes are kept", m.Glyph(65), list)
	}
	clear(list[:cap(list)])
	lists(t, were[:len(b)], l)

	subs := someSubtables(6)
	subs[1].Data = append(subs[1].Data, 5, 5, 5)[:2]
	subsWere := slices.Clone(subs)
	var dataWere [][]byte
	for _, x := range subs {
		dataWere = append(dataWere, slices.Clone(x.Data[:cap(x.Data)]))
	}
	want, _ := tablePlainly(subs[:4])
	built, _ := cmap.Build(subs[:4])
	spare := built[:cap(built)]
	for i := range spare {
		spare[i] = 0xAA
	}
	for i, x := range subs {
		y := subsWere[i]
		if x.Platform != y.Platform || x.Encoding != y.Encoding || !bytes.Equal(x.Data, y.Data) || !bytes.Equal(x.Data[:cap(x.Data)], dataWere[i]) {
			t.Error("subtable", i, "is changed")
		}
	}
	if again, e := cmap.Build(subs[:4]); e != api.OK || !bytes.Equal(again, want) {
		t.Error(again, e)
	}
}

// TestDrawnTables draws tables, changes some of their bytes, and holds them against a plain reckoning.
func TestDrawnTables(t *testing.T) {
	draw := rand.New(rand.NewSource(2))
	count := map[api.Errno]int{}
	for range 30000 {
		var l []api.Encoding
		var subs [][]byte
		for platform := range 4 {
			for _, encoding := range []int{0, 1, 3, 4, 10} {
				if draw.Intn(6) != 0 {
					continue
				}
				l = append(l, at(platform, encoding))
				s := sub(t, []int{4, 6, 12}[draw.Intn(3)], 1+draw.Intn(20))
				subs = append(subs, s)
			}
		}
		b, _ := laid(l, subs...)
		b = append(b, make([]byte, draw.Intn(3))...)
		for range draw.Intn(4) {
			at := draw.Intn(len(b))
			b[at] = byte(int(b[at]) + draw.Intn(9) - 4)
		}
		b = b[:len(b)-draw.Intn(2)*draw.Intn(len(b))]
		count[loadsAsPlainly(t, b)]++
	}
	if count[api.OK] < 5000 || count[api.ErrCmap] < 5000 || count[api.ErrMap] < 1000 {
		t.Error("not of all kinds:", count)
	}
}

// loadsAsPlainly holds a table against a plain reckoning, and answers how it is loaded.
func loadsAsPlainly(t *testing.T, b []byte) api.Errno {
	t.Helper()
	l, may := listPlainly(b)
	if !may {
		listsNot(t, b)
		return api.ErrCmap
	}
	lists(t, b, l)
	best, counts := bestPlainly(b)
	if !counts {
		loadsNot(t, b, 30, api.ErrCmap)
		return api.ErrCmap
	}
	if _, e := charmap.Load(b[best.Off:], 30); e != api.OK {
		loadsNot(t, b, 30, api.ErrMap)
		return api.ErrMap
	}
	loads(t, b, 30, best)
	return api.OK
}

// TestAnyBytes: whatever is handed in is answered.
func TestAnyBytes(t *testing.T) {
	draw := rand.New(rand.NewSource(3))
	for range 20000 {
		b := make([]byte, draw.Intn(200))
		draw.Read(b)
		if len(b) >= 4 {
			copy(b, twos(0, draw.Intn(4)))
		}
		for at := 4; at+8 <= len(b) && at < 30; at += 8 {
			copy(b[at:], twos(draw.Intn(4), draw.Intn(4), 0, draw.Intn(220)))
			if off := two(b, at+6); off+2 <= len(b) && off >= 36 {
				setTwo(b, off, draw.Intn(14))
			}
		}
		loadsAsPlainly(t, b)
	}
}
