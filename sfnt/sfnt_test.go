package sfnt_test

import (
	"bytes"
	"encoding/binary"
	"fmt"
	"math"
	"math/rand"
	"slices"
	"testing"

	"serif/api"
	"serif/sfnt"
)

// raw is a directory of these entries, whatever they say, and bytes 1, 2, 3, .. behind it, up to size in all.
func raw(version, n, size int, entries ...api.Table) []byte {
	b := binary.BigEndian.AppendUint32(nil, uint32(version))
	b = binary.BigEndian.AppendUint16(b, uint16(n))
	b = append(b, 0xA, 0xB, 0xC, 0xD, 0xE, 0xF)
	for _, t := range entries {
		b = append(b, t.Tag...)
		b = binary.BigEndian.AppendUint32(b, uint32(t.Sum))
		b = binary.BigEndian.AppendUint32(b, uint32(t.Off))
		b = binary.BigEndian.AppendUint32(b, uint32(t.Len))
	}
	for i := 1; len(b) < size; i++ {
		b = append(b, byte(i))
	}
	return b[:size]
}

func table(tag string, off, length int) api.Table { return api.Table{Tag: tag, Off: off, Len: length} }

// many is entries of n empty tables whose tags rise, at the end of their directory.
func many(n int) []api.Table {
	var l []api.Table
	for i := range n {
		l = append(l, table(fmt.Sprintf("t%03d", i), 12+16*n, 0))
	}
	return l
}

// refuses asks that Parse refuses bytes, and Find and Check for the same reason.
func refuses(t *testing.T, name string, b []byte, want api.Errno) {
	t.Helper()
	if v, l, e := sfnt.Parse(b); v != 0 || len(l) != 0 || e != want {
		t.Errorf("Parse, %s: %d %v %d, want %d", name, v, l, e, want)
	}
	for _, tag := range []string{"aaaa", "head", "none", ""} {
		if d, e := sfnt.Find(b, tag); len(d) != 0 || e != want {
			t.Errorf("Find, %s: %v %d, want %d", name, d, e, want)
		}
	}
	if e := sfnt.Check(b); e != want {
		t.Errorf("Check, %s: %d, want %d", name, e, want)
	}
}

func parses(t *testing.T, name string, b []byte, version int, want ...api.Table) {
	t.Helper()
	if v, l, e := sfnt.Parse(b); v != version || !slices.Equal(l, want) || e != api.OK {
		t.Errorf("Parse, %s: %x %v %d, want %x %v", name, v, l, e, version, want)
	}
	for _, w := range want {
		if d, e := sfnt.Find(b, w.Tag); e != api.OK || !bytes.Equal(d, b[w.Off:w.Off+w.Len]) {
			t.Errorf("Find %s, %s: %v %d", w.Tag, name, d, e)
		}
	}
}

func TestParse(t *testing.T) {
	for _, version := range []int{api.VersionOne, api.VersionTrue, api.VersionCff} {
		l := []api.Table{{Tag: " !~a", Off: 44, Len: 5, Sum: 0xFFFFFFFE}, {Tag: "abcd", Off: 52, Len: 3, Sum: 7}}
		parses(t, "two tables", raw(version, 2, 60, l...), version, l...)
	}
	one := table("abcd", 28, 5)
	parses(t, "an end at the font's end", raw(api.VersionOne, 1, 33, one), api.VersionOne, one)
	parses(t, "bytes that no table has", raw(api.VersionOne, 1, 99, one), api.VersionOne, one)
	parses(t, "a gap ahead of a table", raw(api.VersionOne, 1, 99, table("abcd", 92, 7)), api.VersionOne, table("abcd", 92, 7))
}

func TestVersions(t *testing.T) {
	for _, v := range []int{0, 1, 0x00020000, 0x00010001, 0x10001000, 0x74746366, 0x74797031, 0x4F54544E, 0xFFFFFFFF} {
		refuses(t, "a version that is none", raw(v, 1, 40, table("abcd", 28, 5)), api.ErrTable)
	}
}

func TestBytesThatEndTooSoon(t *testing.T) {
	font := raw(api.VersionOne, 2, 60, table("abcd", 44, 5), table("abce", 52, 4))
	for n := range 44 {
		refuses(t, fmt.Sprint(n, " bytes"), font[:n], api.ErrShort)
	}
	refuses(t, "nil", nil, api.ErrShort)
	for n := 44; n < 56; n++ {
		refuses(t, fmt.Sprint(n, " bytes"), font[:n], api.ErrTable)
	}
	parses(t, "56 bytes", font[:56], api.VersionOne, table("abcd", 44, 5), table("abce", 52, 4))
}

// TestShortOrTable: with 12 bytes a version that is none, and numbers of tables that may not be, are told ahead of a directory that ends too soon, and all else behind it.
func TestShortOrTable(t *testing.T) {
	for n := range 12 {
		refuses(t, "no version, and too short", raw(0, 0, 60)[:n], api.ErrShort)
	}
	refuses(t, "no version, 12 bytes", raw(0, 1, 12), api.ErrTable)
	refuses(t, "no tables, 12 bytes", raw(api.VersionOne, 0, 12), api.ErrTable)
	refuses(t, "65 tables, 12 bytes", raw(api.VersionOne, 65, 12), api.ErrTable)
	refuses(t, "65535 tables, 12 bytes", raw(api.VersionOne, 65535, 12), api.ErrTable)
	refuses(t, "64 tables, 12 bytes", raw(api.VersionOne, 64, 12), api.ErrShort)
	refuses(t, "1 table, 12 bytes", raw(api.VersionOne, 1, 12), api.ErrShort)
	refuses(t, "a tag that is none, and too short", raw(api.VersionOne, 2, 43, table("ab\x00d", 0, 0)), api.ErrShort)
	refuses(t, "tags that fall, and too short", raw(api.VersionOne, 3, 44, table("b   ", 1, 9), table("a   ", 1, 9)), api.ErrShort)
}

func TestHowManyTables(t *testing.T) {
	for _, n := range []int{1, 2, 63, 64} {
		parses(t, fmt.Sprint(n), raw(api.VersionOne, n, 12+16*n, many(n)...), api.VersionOne, many(n)...)
	}
	refuses(t, "no tables", raw(api.VersionOne, 0, 12), api.ErrTable)
	refuses(t, "65 tables", raw(api.VersionOne, 65, 12+16*65, many(65)...), api.ErrTable)
	refuses(t, "257 tables", raw(api.VersionOne, 257, 12+16*257, many(257)...), api.ErrTable)
}

func TestLongestFont(t *testing.T) {
	l := []api.Table{table("abcd", 28, api.MaxFile-28)}
	b := raw(api.VersionOne, 1, api.MaxFile, l...)
	parses(t, "2^20 bytes", b, api.VersionOne, l...)
	refuses(t, "2^20 + 1 bytes", append(b, 0), api.ErrLong)
	refuses(t, "2^20 + 1 bytes of nothing", make([]byte, api.MaxFile+1), api.ErrLong)
	refuses(t, "2^20 bytes of nothing", make([]byte, api.MaxFile), api.ErrTable)
}

func TestTagsOfTables(t *testing.T) {
	for _, c := range []struct{ a, b string }{
		{"abcd", "abcd"}, {"abce", "abcd"}, {"b   ", "aaaa"}, {"a", "b"}, {"ZZZZ", "AAAA"}, {"aaaa", "ZZZZ"},
	} {
		pad := func(s string) string { return (s + "\x00\x00\x00")[:4] }
		refuses(t, c.a+" and "+c.b, raw(api.VersionOne, 2, 60, table(pad(c.a), 44, 4), table(pad(c.b), 48, 4)), api.ErrTable)
	}
	for _, bad := range []byte{0, 10, 31, 127, 128, 195, 255} {
		for i := range 4 {
			tag := []byte("abcd")
			tag[i] = bad
			refuses(t, fmt.Sprintf("%q", tag), raw(api.VersionOne, 1, 40, table(string(tag), 28, 4)), api.ErrTable)
		}
	}
	parses(t, "tags at the edges", raw(api.VersionOne, 2, 60, table("    ", 44, 4), table("~~~~", 48, 4)), api.VersionOne, table("    ", 44, 4), table("~~~~", 48, 4))
}

func TestPlacesOfTables(t *testing.T) {
	for _, c := range []struct {
		name     string
		off, len int
	}{
		{"no multiple of 4", 29, 4},
		{"no multiple of 4, empty", 30, 0},
		{"no multiple of 4, at the end, empty", 39, 0},
		{"ahead of the directory's end", 24, 4},
		{"ahead of the directory's end, empty", 24, 0},
		{"at the font's beginning", 0, 40},
		{"at the font's beginning, empty", 0, 0},
		{"beyond the end by one", 28, 13},
		{"beyond the end by one, from the end on", 40, 1},
		{"beyond the end, empty", 44, 0},
		{"far beyond the end", 1<<32 - 4, 0},
		{"as if it wrapped round", 1<<32 - 4, 36},
		{"longer than any font", 28, 1<<32 - 1},
	} {
		refuses(t, c.name, raw(api.VersionOne, 1, 40, table("abcd", c.off, c.len)), api.ErrTable)
	}
	for _, c := range []struct {
		name     string
		off, len int
	}{
		{"all behind the directory", 28, 12},
		{"empty, at the directory's end", 28, 0},
		{"empty, at the font's end", 40, 0},
	} {
		parses(t, c.name, raw(api.VersionOne, 1, 40, table("abcd", c.off, c.len)), api.VersionOne, table("abcd", c.off, c.len))
	}
}

func TestTablesThatHaveBytesInCommon(t *testing.T) {
	type place struct{ off, len int }
	for _, c := range []struct {
		name  string
		l     []place
		apart bool
	}{
		{"one behind the other", []place{{60, 8}, {68, 4}, {72, 1}}, true},
		{"one behind the other, from the end on", []place{{72, 8}, {64, 8}, {60, 4}}, true},
		{"the same place", []place{{60, 8}, {60, 8}, {76, 4}}, false},
		{"one byte in common", []place{{60, 5}, {64, 4}, {76, 4}}, false},
		{"one byte in common, the other way round", []place{{64, 4}, {60, 5}, {76, 4}}, false},
		{"one byte less", []place{{60, 4}, {64, 4}, {76, 4}}, true},
		{"one within another one", []place{{60, 20}, {64, 4}, {80, 4}}, false},
		{"the first in the last", []place{{68, 4}, {84, 4}, {64, 12}}, false},
		{"a long one over both", []place{{64, 4}, {72, 4}, {60, 20}}, false},
		{"an empty one within another one", []place{{60, 20}, {64, 0}, {80, 4}}, true},
		{"an empty one at another one's beginning", []place{{60, 20}, {60, 0}, {80, 4}}, true},
		{"an empty one at another one's beginning, told ahead", []place{{60, 0}, {60, 20}, {80, 4}}, true},
		{"empty ones at one place", []place{{64, 0}, {64, 0}, {60, 20}}, true},
		{"an empty one between two that meet", []place{{60, 9}, {64, 0}, {68, 4}}, false},
	} {
		var l []api.Table
		for i, p := range c.l {
			l = append(l, table(fmt.Sprintf("tab%d", i), p.off, p.len))
		}
		b := raw(api.VersionTrue, 3, 100, l...)
		if c.apart {
			parses(t, c.name, b, api.VersionTrue, l...)
		} else {
			refuses(t, c.name, b, api.ErrTable)
		}
	}
}

func TestFindWhatIsMissing(t *testing.T) {
	b := raw(api.VersionOne, 1, 40, table("abcd", 28, 5))
	for _, tag := range []string{"abce", "abc", "abcde", "", "ABCD", "\x00\x00\x00\x00", "abcd "} {
		if d, e := sfnt.Find(b, tag); len(d) != 0 || e != api.ErrMissing {
			t.Errorf("%q: %v %d", tag, d, e)
		}
	}
}

// TestAnswersAreNewMemory changes what was answered, and the font's bytes.
func TestAnswersAreNewMemory(t *testing.T) {
	room := append(raw(api.VersionOne, 2, 60, table("abcd", 44, 4), table("abce", 48, 4)), 77, 78)
	b := room[:60]
	was := slices.Clone(room)
	d, _ := sfnt.Find(b, "abcd")
	_ = append(d, 9, 9, 9, 9)
	clear(d)
	_, l, _ := sfnt.Parse(b)
	_ = append(l[:1], api.Table{})
	sfnt.Check(b)
	sfnt.Sum(b[:59])
	if !bytes.Equal(room, was) {
		t.Error("the font is changed")
	}
	parses(t, "the same again", b, api.VersionOne, table("abcd", 44, 4), table("abce", 48, 4))
	d, _ = sfnt.Find(b, "abcd")
	clear(b)
	if !bytes.Equal(d, []byte{1, 2, 3, 4}) {
		t.Error("a table's bytes are the font's own", d)
	}
}

func TestSum(t *testing.T) {
	for _, c := range []struct {
		b    []byte
		want int
	}{
		{nil, 0},
		{[]byte{}, 0},
		{[]byte{1}, 0x01000000},
		{[]byte{1, 2}, 0x01020000},
		{[]byte{1, 2, 3}, 0x01020300},
		{[]byte{1, 2, 3, 4}, 0x01020304},
		{[]byte{1, 2, 3, 4, 5}, 0x06020304},
		{[]byte{1, 2, 3, 4, 5, 6, 7, 8}, 0x06080A0C},
		{[]byte{0xFF, 0xFF, 0xFF, 0xFF, 0, 0, 0, 1}, 0},
		{[]byte{0xFF, 0xFF, 0xFF, 0xFF, 0xFF, 0xFF, 0xFF, 0xFF}, 0xFFFFFFFE},
		{[]byte{0xFF, 0xFF, 0xFF, 0xFF, 0xFF}, 0xFEFFFFFF},
		{[]byte{0x80, 0, 0, 0, 0x7F, 0xFF, 0xFF, 0xFF}, 0xFFFFFFFF},
	} {
		if x := sfnt.Sum(c.b); x != c.want {
			t.Errorf("%v: %x, want %x", c.b, x, c.want)
		}
	}
	if x := sfnt.Sum(bytes.Repeat([]byte{0xFF}, 4<<18)); x != 1<<32-1<<18 {
		t.Errorf("%x", x)
	}
	room := []byte{1, 2, 3, 4, 5, 99, 98, 97}
	if x := sfnt.Sum(room[:5]); x != 0x06020304 {
		t.Errorf("what lies behind the end counts: %x", x)
	}
}

func TestIsTag(t *testing.T) {
	for _, s := range []string{"abcd", "    ", "~~~~", "OS/2", "cvt ", "a\"\\'"} {
		if !sfnt.IsTag(s) {
			t.Errorf("%q is one", s)
		}
	}
	for _, s := range []string{"", "a", "abc", "abcde", "abcdabcd", "abc\x1F", "\x7Fabc", "a\x80bc", "é12", "éé", "語1", "😀", "\xFF\xFF\xFF\xFF", "\x00\x00\x00\x00", "abc\n"} {
		if sfnt.IsTag(s) {
			t.Errorf("%q is none", s)
		}
	}
	for c := range 256 {
		for i := range 4 {
			tag := []byte("abcd")
			tag[i] = byte(c)
			if sfnt.IsTag(string(tag)) != (32 <= c && c <= 126) {
				t.Errorf("%q", tag)
			}
		}
	}
}

// withSums is a font whose entries say these sums.
func withSums(b []byte, sums ...uint32) []byte {
	b = slices.Clone(b)
	for i, s := range sums {
		binary.BigEndian.PutUint32(b[12+16*i+4:], s)
	}
	return b
}

func TestCheck(t *testing.T) {
	b := raw(api.VersionOne, 2, 60, table("abcd", 44, 5), table("abce", 52, 4))
	first, second := uint32(0x01020304+0x05000000), uint32(0x090A0B0C)
	if e := sfnt.Check(withSums(b, first, second)); e != api.OK {
		t.Error("right sums:", e)
	}
	for _, l := range [][]uint32{{first + 1, second}, {first, second - 1}, {second, first}, {first, 0}, {0, second}, {0xFFFFFFFF, 0xFFFFFFFF}} {
		if e := sfnt.Check(withSums(b, l...)); e != api.ErrSum {
			t.Error(l, e)
		}
	}
	empty := raw(api.VersionOne, 1, 28, table("abcd", 28, 0))
	if sfnt.Check(empty) != api.OK || sfnt.Check(withSums(empty, 1)) != api.ErrSum {
		t.Error("an empty table's sum is 0")
	}
}

// TestCheckHead: its bytes 8 to 11 count as 0, if there are all of them; those of others do not.
func TestCheckHead(t *testing.T) {
	for _, c := range []struct {
		tag     string
		len     int
		sum     uint32
		counted bool
	}{
		{"head", 12, 0x01020304 + 0x05060708, false},
		{"head", 13, 0x01020304 + 0x05060708 + 0x0D000000, false},
		{"head", 11, 0x01020304 + 0x05060708 + 0x090A0B00, true},
		{"head", 9, 0x01020304 + 0x05060708 + 0x09000000, true},
		{"hhea", 12, 0x01020304 + 0x05060708 + 0x090A0B0C, true},
		{"Head", 12, 0x01020304 + 0x05060708 + 0x090A0B0C, true},
	} {
		b := withSums(raw(api.VersionOne, 1, 60, table(c.tag, 28, c.len)), c.sum)
		if e := sfnt.Check(b); e != api.OK {
			t.Error(c, e)
		}
		b[28+8]++
		if counted := sfnt.Check(b) == api.ErrSum; counted != c.counted {
			t.Error(c, "byte 8 counts:", counted)
		}
	}
	b := withSums(raw(api.VersionOne, 1, 60, table("head", 28, 16)), 0x01020304+0x05060708+0x0D0E0F10)
	for i := range 16 {
		b[28+i]++
		if counted := sfnt.Check(b) == api.ErrSum; counted != (i < 8 || i > 11) {
			t.Error("byte", i, "counts:", counted)
		}
		b[28+i]--
	}
}

func blob(tag string, data ...byte) api.Blob { return api.Blob{Tag: tag, Data: data} }

func TestExampleOfSfnt(t *testing.T) {
	b, e := sfnt.Build(api.VersionOne, []api.Blob{blob("abcd", 1, 2, 3, 4, 5)})
	want := []byte{
		0, 1, 0, 0, 0, 1, 0, 16, 0, 0, 0, 0,
		'a', 'b', 'c', 'd', 6, 2, 3, 4, 0, 0, 0, 28, 0, 0, 0, 5,
		1, 2, 3, 4, 5, 0, 0, 0,
	}
	if e != api.OK || !bytes.Equal(b, want) {
		t.Error(b, e)
	}
}

func TestBuildInOrder(t *testing.T) {
	b, e := sfnt.Build(api.VersionCff, []api.Blob{blob("b   ", 9, 9, 9, 9), blob("c   "), blob("Z   ", 7)})
	want := []byte{
		'O', 'T', 'T', 'O', 0, 3, 0, 32, 0, 1, 0, 16,
		'Z', ' ', ' ', ' ', 7, 0, 0, 0, 0, 0, 0, 60, 0, 0, 0, 1,
		'b', ' ', ' ', ' ', 9, 9, 9, 9, 0, 0, 0, 64, 0, 0, 0, 4,
		'c', ' ', ' ', ' ', 0, 0, 0, 0, 0, 0, 0, 68, 0, 0, 0, 0,
		7, 0, 0, 0, 9, 9, 9, 9,
	}
	if e != api.OK || !bytes.Equal(b, want) {
		t.Error(b, e)
	}
}

// TestSearchNumbers asks for the 6 bytes of all numbers of tables.
func TestSearchNumbers(t *testing.T) {
	for n := 1; n <= 64; n++ {
		var l []api.Blob
		for i := range n {
			l = append(l, blob(fmt.Sprintf("t%03d", i), byte(i)))
		}
		b, e := sfnt.Build(api.VersionTrue, l)
		if e != api.OK || len(b) != 12+20*n {
			t.Fatal(n, e, len(b))
		}
		power, often := 1, 0
		for power*2 <= n {
			power *= 2
			often++
		}
		want := []int{n, 16 * power, often, 16*n - 16*power}
		for i, x := range want {
			if have := int(binary.BigEndian.Uint16(b[4+2*i:])); have != x {
				t.Error(n, i, have, x)
			}
		}
	}
}

func TestBuildRefuses(t *testing.T) {
	var most []api.Blob
	for i := range 65 {
		most = append(most, blob(fmt.Sprintf("t%03d", i)))
	}
	big := make([]byte, api.MaxFile+1)
	for _, c := range []struct {
		name    string
		version int
		l       []api.Blob
		e       api.Errno
	}{
		{"no version", 0, []api.Blob{blob("abcd")}, api.ErrArg},
		{"a version beyond 4 bytes", api.VersionOne + 1<<32, []api.Blob{blob("abcd")}, api.ErrArg},
		{"a version below 0", -api.VersionOne, []api.Blob{blob("abcd")}, api.ErrArg},
		{"the least version", math.MinInt, []api.Blob{blob("abcd")}, api.ErrArg},
		{"nil", api.VersionOne, nil, api.ErrArg},
		{"no blobs", api.VersionOne, []api.Blob{}, api.ErrArg},
		{"65 blobs", api.VersionOne, most, api.ErrArg},
		{"no tag", api.VersionOne, []api.Blob{blob("")}, api.ErrArg},
		{"a short tag", api.VersionOne, []api.Blob{blob("abcd"), blob("abc")}, api.ErrArg},
		{"a tag of other letters", api.VersionOne, []api.Blob{blob("abcd"), blob("ab\x7Fc")}, api.ErrArg},
		{"twice", api.VersionOne, []api.Blob{blob("abcd", 1), blob("abcd", 2)}, api.ErrTwice},
		{"twice, with others between", api.VersionOne, []api.Blob{blob("abcd"), blob("aaaa"), blob("zzzz"), blob("abcd")}, api.ErrTwice},
		{"too long", api.VersionOne, []api.Blob{{Tag: "abcd", Data: big}}, api.ErrLong},
		{"twice, and no version", 5, []api.Blob{blob("abcd"), blob("abcd")}, api.ErrArg},
		{"twice, and a tag that is none", api.VersionOne, []api.Blob{blob("abcd"), blob("abcd"), blob("a")}, api.ErrArg},
		{"twice, and too many", api.VersionOne, append(slices.Clone(most), most...), api.ErrArg},
		{"twice, and too long", api.VersionOne, []api.Blob{{Tag: "abcd", Data: big}, blob("abcd")}, api.ErrTwice},
		{"no tag, and too long", api.VersionOne, []api.Blob{{Tag: "abc", Data: big}}, api.ErrArg},
	} {
		if b, e := sfnt.Build(c.version, c.l); len(b) != 0 || e != c.e {
			t.Errorf("%s: %d bytes, %d, want %d", c.name, len(b), e, c.e)
		}
	}
	if _, e := sfnt.Build(api.VersionOne, most[:64]); e != api.OK {
		t.Error("64 blobs:", e)
	}
}

// TestLongestBuild: bytes that make a table's length a multiple of 4 count too.
func TestLongestBuild(t *testing.T) {
	room := api.MaxFile - 12 - 16*2
	for _, c := range []struct {
		a, b int
		e    api.Errno
	}{
		{room, 0, api.OK},
		{room - 3, 0, api.OK},
		{room - 4, 1, api.OK},
		{room - 7, 4, api.OK},
		{room + 1, 0, api.ErrLong},
		{room - 3, 1, api.ErrLong},
		{room - 4, 5, api.ErrLong},
		{room, 1, api.ErrLong},
		{5 * room, room, api.ErrLong},
	} {
		l := []api.Blob{{Tag: "aaaa", Data: make([]byte, c.a)}, {Tag: "bbbb", Data: make([]byte, c.b)}}
		b, e := sfnt.Build(api.VersionOne, l)
		if e != c.e || e == api.OK && len(b) != api.MaxFile || e != api.OK && len(b) != 0 {
			t.Error(c, len(b), e)
		}
		if _, _, f := sfnt.Parse(b); e == api.OK && f != api.OK {
			t.Error(c, f)
		}
	}
}

// plainSum is the sum of bytes, told by the wrap-round of the language's own numbers.
func plainSum(b []byte) uint32 {
	b = append(slices.Clone(b), make([]byte, (4-len(b)%4)%4)...)
	sum := uint32(0)
	for ; len(b) > 0; b = b[4:] {
		sum += binary.BigEndian.Uint32(b)
	}
	return sum
}

func TestBuildHead(t *testing.T) {
	for n := range 20 {
		head := bytes.Repeat([]byte{0xAB}, n)
		l := []api.Blob{{Tag: "head", Data: head}, blob("abcd", 1, 2, 3, 4, 5)}
		b, e := sfnt.Build(api.VersionOne, l)
		if e != api.OK || sfnt.Check(b) != api.OK {
			t.Fatal(n, e, sfnt.Check(b))
		}
		got, e := sfnt.Find(b, "head")
		if e != api.OK || len(got) != n {
			t.Fatal(n, got, e)
		}
		told := binary.BigEndian.Uint32(b[12+16+4:])
		if n < 12 {
			if !bytes.Equal(got, head) || told != plainSum(head) {
				t.Error(n, got, told)
			}
			continue
		}
		want := append(append(slices.Clone(head[:8]), 0, 0, 0, 0), head[12:]...)
		if told != plainSum(want) {
			t.Errorf("%d: the sum of head: %x", n, told)
		}
		if plainSum(b) != 0xB1B0AFBA {
			t.Errorf("%d: the sum of all: %x", n, plainSum(b))
		}
		copy(want[8:], got[8:12])
		if !bytes.Equal(got, want) || bytes.Equal(got[8:12], head[8:12]) {
			t.Error(n, got)
		}
	}
}

// TestBuildLeavesWhatItIsGiven changes what was answered, too, and builds again.
func TestBuildLeavesWhatItIsGiven(t *testing.T) {
	room := make([]byte, 40)
	for i := range room {
		room[i] = byte(i + 1)
	}
	was := slices.Clone(room)
	l := []api.Blob{{Tag: "post", Data: room[20:25]}, {Tag: "head", Data: room[:14]}, {Tag: "abcd", Data: room[4:30]}}
	blobs := slices.Clone(l)
	first, e := sfnt.Build(api.VersionOne, blobs[:3])
	if e != api.OK {
		t.Fatal(e)
	}
	for i := range l {
		if blobs[i].Tag != l[i].Tag || !bytes.Equal(blobs[i].Data, l[i].Data) {
			t.Error("blobs are changed", i)
		}
	}
	keep := slices.Clone(first)
	clear(first)
	_ = append(first, 1, 2, 3)
	if !bytes.Equal(room, was) {
		t.Error("their bytes are changed")
	}
	second, _ := sfnt.Build(api.VersionOne, blobs)
	clear(room)
	if !bytes.Equal(second, keep) {
		t.Error("another font")
	}
}

// TestWhatWasBuiltIsParsed builds fonts of many tables, and finds each again.
func TestWhatWasBuiltIsParsed(t *testing.T) {
	draw := rand.New(rand.NewSource(2))
	versions := []int{api.VersionOne, api.VersionTrue, api.VersionCff}
	for range 300 {
		version := versions[draw.Intn(3)]
		var l []api.Blob
		for _, i := range draw.Perm(64)[:1+draw.Intn(64)] {
			data := make([]byte, draw.Intn(30))
			draw.Read(data)
			l = append(l, api.Blob{Tag: fmt.Sprintf("t%02d ", i), Data: data})
		}
		if len(l) < 64 && draw.Intn(2) == 0 {
			data := make([]byte, draw.Intn(30))
			draw.Read(data)
			l = append(l, api.Blob{Tag: "head", Data: data})
		}
		b, e := sfnt.Build(version, l)
		if e != api.OK {
			t.Fatal(e)
		}
		v, tables, e := sfnt.Parse(b)
		if v != version || len(tables) != len(l) || e != api.OK || sfnt.Check(b) != api.OK {
			t.Fatal(v, tables, e, sfnt.Check(b))
		}
		foundAgain(t, b, l)
	}
}

func foundAgain(t *testing.T, b []byte, l []api.Blob) {
	t.Helper()
	for _, blob := range l {
		d, e := sfnt.Find(b, blob.Tag)
		if e != api.OK || len(d) != len(blob.Data) {
			t.Fatal(blob, d, e)
		}
		for i := range d {
			if d[i] != blob.Data[i] && !(blob.Tag == "head" && len(d) >= 12 && 8 <= i && i < 12) {
				t.Error(blob, d)
			}
		}
	}
}

// plainParse is what the document says of a directory, each byte of a table being marked.
func plainParse(b []byte) api.Errno {
	n := int(binary.BigEndian.Uint16(b[4:]))
	end := 12 + 16*n
	if len(b) < end {
		return api.ErrShort
	}
	mark := make([]bool, len(b))
	last := ""
	for i := range n {
		entry := b[12+16*i:]
		tag := string(entry[:4])
		off, length := int(binary.BigEndian.Uint32(entry[8:])), int(binary.BigEndian.Uint32(entry[12:]))
		if !sfnt.IsTag(tag) || tag <= last || off%4 != 0 || off < end || off > len(b) || length > len(b)-off {
			return api.ErrTable
		}
		last = tag
		for j := off; j < off+length; j++ {
			if mark[j] {
				return api.ErrTable
			}
			mark[j] = true
		}
	}
	return api.OK
}

// TestDirectoriesOfAllKinds draws small directories, many of which may be, and many of which may not.
func TestDirectoriesOfAllKinds(t *testing.T) {
	draw := rand.New(rand.NewSource(3))
	count := map[api.Errno]int{}
	for range 20000 {
		n := 1 + draw.Intn(4)
		var l []api.Table
		for i := range n {
			off := 12 + 16*n + 4*draw.Intn(8)
			if draw.Intn(20) == 0 {
				off += draw.Intn(40) - 20
			}
			tag := fmt.Sprintf("t%d  ", i)
			if draw.Intn(20) == 0 {
				tag = fmt.Sprintf("t%d  ", draw.Intn(4))
			}
			l = append(l, api.Table{Tag: tag, Off: off, Len: draw.Intn(9), Sum: draw.Intn(1 << 32)})
		}
		b := raw(api.VersionOne, n, 12+16*n+draw.Intn(50), l...)
		if draw.Intn(20) == 0 {
			b = b[:12+draw.Intn(len(b)-11)]
		}
		want := plainParse(b)
		count[want]++
		if want == api.OK {
			parses(t, "a drawn one", b, api.VersionOne, l...)
		} else {
			refuses(t, "a drawn one", b, want)
		}
	}
	if len(count) != 3 || count[api.OK] < 1000 || count[api.ErrTable] < 1000 {
		t.Error("not of all kinds:", count)
	}
}

// TestAnyBytes: whatever is handed in is answered.
func TestAnyBytes(t *testing.T) {
	draw := rand.New(rand.NewSource(4))
	font, _ := sfnt.Build(api.VersionOne, []api.Blob{blob("abcd", 1, 2, 3, 4, 5), blob("head", make([]byte, 20)...), blob("zzzz")})
	for range 20000 {
		b := slices.Clone(font[:draw.Intn(len(font)+1)])
		for range draw.Intn(4) {
			if len(b) > 0 {
				b[draw.Intn(len(b))] = byte(draw.Intn(256))
			}
		}
		_, l, e := sfnt.Parse(b)
		if (e == api.OK) != (len(l) > 0) {
			t.Fatal(b, l, e)
		}
		if c := sfnt.Check(b); c != e && c != api.ErrSum {
			t.Error(b, c, e)
		}
		if _, f := sfnt.Find(b, "abcd"); f != e && f != api.ErrMissing {
			t.Error(b, f, e)
		}
	}
}
