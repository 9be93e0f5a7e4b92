package kern_test

import (
	"bytes"
	"math"
	"math/bits"
	"math/rand"
	"slices"
	"testing"

	"serif/api"
	"serif/kern"
)

const mostPairs = 10920

func two(x int) []byte { return []byte{byte(x >> 8), byte(x)} }

// twos is numbers of 2 bytes, one behind the other.
func twos(l ...int) []byte {
	var b []byte
	for _, x := range l {
		b = append(b, two(x)...)
	}
	return b
}

// subtable is a subtable with these bytes behind its first 6, whatever they are.
func subtable(coverage int, body []byte) []byte {
	return append(twos(0x1234, 6+len(body), coverage), body...)
}

// bodyOf is what follows a subtable's first 6 bytes, the numbers that are not looked at being any.
func bodyOf(l []api.Kern) []byte {
	b := twos(len(l), 0xABCD, 0xFFFF, 1)
	for _, p := range l {
		b = append(b, twos(p.Left, p.Right, p.Value)...)
	}
	return b
}

// table is a table of these subtables.
func table(subtables ...[]byte) []byte {
	return append(twos(0, len(subtables)), slices.Concat(subtables...)...)
}

// somePairs is n pairs that rise, with values of both signs.
func somePairs(n int) []api.Kern {
	var l []api.Kern
	for i := range n {
		l = append(l, api.Kern{Left: 65535 - (n-1)/3 + i/3, Right: 7 + 20000*(i%3), Value: (301*i+1<<14)%(1<<16) - 1<<15})
	}
	return l
}

func loads(t *testing.T, b []byte, l []api.Kern) {
	t.Helper()
	p, e := kern.Load(b)
	if e != api.OK || p == nil {
		t.Fatalf("Load of %d pairs: %v %d", len(l), p, e)
	}
	are(t, p, l)
}

// are asks that pairs are these, in all that is told of them.
func are(t *testing.T, p *kern.Pairs, l []api.Kern) {
	t.Helper()
	if p.Len() != len(l) {
		t.Errorf("Len: %d, want %d", p.Len(), len(l))
	}
	if all := slices.Collect(p.All()); !slices.Equal(all, l) {
		t.Errorf("All: %v, want %v", all, l)
	}
	values := map[[2]int]int{}
	for _, x := range l {
		values[[2]int{x.Left, x.Right}] = x.Value
	}
	for _, x := range l {
		for left := x.Left - 1; left <= x.Left+1; left++ {
			for right := x.Right - 1; right <= x.Right+1; right++ {
				if v := p.Value(left, right); v != values[[2]int{left, right}] {
					t.Errorf("Value(%d, %d): %d, want %d", left, right, v, values[[2]int{left, right}])
				}
			}
		}
		if _, ok := values[[2]int{x.Right, x.Left}]; !ok && p.Value(x.Right, x.Left) != 0 {
			t.Errorf("Value(%d, %d): these are no pair", x.Right, x.Left)
		}
	}
}

func loadsNot(t *testing.T, b []byte) {
	t.Helper()
	if p, e := kern.Load(b); p != nil || e != api.ErrKern {
		t.Errorf("Load of %d bytes: %v %d, want %d", len(b), p, e, api.ErrKern)
	}
}

func putsNot(t *testing.T, l []api.Kern) {
	t.Helper()
	if b, e := kern.Put(l); len(b) != 0 || e != api.ErrArg {
		t.Errorf("Put of %d: %v %d, want %d", len(l), b, e, api.ErrArg)
	}
}

// putBytes is the table that Put answers, by hand.
func putBytes(l []api.Kern) []byte {
	n := len(l)
	b := twos(0, 1, 0, 14+6*n, 1, n)
	if n == 0 {
		return append(b, 0, 0, 0, 0, 0, 0)
	}
	power, often := 1, 0
	for ; power*2 <= n; often++ {
		power *= 2
	}
	return append(append(b, twos(6*power, often, 6*n-6*power)...), bodyOf(l)[8:]...)
}

func puts(t *testing.T, l []api.Kern) {
	t.Helper()
	b, e := kern.Put(l)
	if e != api.OK || !bytes.Equal(b, putBytes(l)) {
		t.Fatalf("Put of %d: %v %d", len(l), b, e)
	}
	loads(t, b, l)
}

func TestExampleOfKern(t *testing.T) {
	b, e := kern.Put([]api.Kern{{Left: 1, Right: 2, Value: -50}})
	if want := twos(0, 1, 0, 20, 1, 1, 6, 0, 0, 1, 2, -50); e != api.OK || !bytes.Equal(b, want) {
		t.Error(b, e)
	}
	p, e := kern.Load(b)
	if e != api.OK || p.Value(1, 2) != -50 || p.Value(2, 1) != 0 {
		t.Error(p, e)
	}
}

func TestPut(t *testing.T) {
	puts(t, nil)
	puts(t, []api.Kern{})
	for n := range 140 {
		puts(t, somePairs(n))
	}
	for _, n := range []int{8191, 8192, 8193, mostPairs - 1, mostPairs} {
		puts(t, somePairs(n))
	}
	putsNot(t, somePairs(mostPairs+1))
	putsNot(t, somePairs(65536))
}

func TestSearchNumbers(t *testing.T) {
	for n, want := range map[int][3]int{0: {}, 1: {6, 0, 0}, 2: {12, 1, 0}, 3: {12, 1, 6}, 4: {24, 2, 0}, 7: {24, 2, 18}, 8: {48, 3, 0}, mostPairs: {49152, 13, 16368}} {
		b, e := kern.Put(somePairs(n))
		if e != api.OK || !bytes.Equal(b[12:18], twos(want[:]...)) {
			t.Errorf("of %d pairs: %v %d, want %v", n, b[12:18], e, want)
		}
		if n > 0 && want[1] != bits.Len(uint(n))-1 {
			t.Error(n)
		}
	}
}

// TestBoundsOfPairs puts each number into each place of pairs that may be.
func TestBoundsOfPairs(t *testing.T) {
	puts(t, []api.Kern{{Value: -1 << 15}, {Right: 65535, Value: 1<<15 - 1}, {Left: 65535}, {Left: 65535, Right: 65535, Value: -1}})
	for _, x := range []int{-1, 65536, 5 + 1<<16, 5 + 1<<32, math.MinInt, math.MaxInt} {
		putsNot(t, []api.Kern{{Left: x}})
		putsNot(t, []api.Kern{{Right: x}})
		putsNot(t, []api.Kern{{Left: x, Right: x}})
		for i := range 3 {
			l := []api.Kern{{Left: 1, Right: 5}, {Left: 2, Right: 5}, {Left: 3, Right: 5}}
			l[i].Right = x
			putsNot(t, l)
		}
	}
	putsNot(t, []api.Kern{{Left: 1}, {Left: 65536}})
	putsNot(t, []api.Kern{{Left: -1}, {Left: 1}})
	for _, x := range []int{-1<<15 - 1, 1 << 15, 65535, 5 + 1<<16, 5 - 1<<16, 5 + 1<<32, math.MinInt, math.MaxInt} {
		for i := range 3 {
			l := []api.Kern{{Left: 1}, {Left: 2}, {Left: 3}}
			l[i].Value = x
			putsNot(t, l)
		}
	}
}

// TestPairsThatDoNotRise are refused, put or loaded: two of a list are changed about, or are the same.
func TestPairsThatDoNotRise(t *testing.T) {
	for _, l := range [][]api.Kern{
		{{Left: 1, Right: 2}, {Left: 1, Right: 2}},
		{{Left: 1, Right: 2, Value: 1}, {Left: 1, Right: 2, Value: 2}},
		{{Left: 1, Right: 2}, {Left: 1, Right: 1}},
		{{Left: 2, Right: 1}, {Left: 1, Right: 2}},
		{{Left: 2}, {Left: 1}},
		{{}, {}},
		{{Left: 65535, Right: 65535}, {}},
	} {
		putsNot(t, l)
		loadsNot(t, table(subtable(1, bodyOf(l))))
	}
	for n := 2; n <= 9; n++ {
		for i := range n {
			for j := range i {
				l := somePairs(n)
				l[i], l[j] = l[j], l[i]
				putsNot(t, l)
				loadsNot(t, table(subtable(1, bodyOf(l))))
				l = somePairs(n)
				l[i] = l[j]
				putsNot(t, l)
				loadsNot(t, table(subtable(1, bodyOf(l))))
			}
		}
	}
	puts(t, []api.Kern{{Left: 1, Right: 5}, {Left: 2, Right: 1}, {Left: 2, Right: 2}, {Left: 3, Right: 0}})
}

// TestBeginsWithATable: of a table that may be all bytes are asked for, and none that follows.
func TestBeginsWithATable(t *testing.T) {
	for n := range 6 {
		l := somePairs(n)
		for _, ahead := range [][][]byte{nil, {subtable(0, nil)}, {subtable(0x101, []byte{1}), subtable(3, bodyOf(somePairs(2)))}} {
			b := table(append(ahead, subtable(1, bodyOf(l)))...)
			loads(t, b, l)
			loads(t, append(slices.Clone(b), 1, 2, 3), l)
			for less := range b {
				loadsNot(t, b[:less])
			}
		}
	}
	loadsNot(t, nil)
	loadsNot(t, []byte{})
}

func TestFirstNumber(t *testing.T) {
	for bit := range 16 {
		b := table(subtable(1, bodyOf(somePairs(2))))
		copy(b, two(1<<bit))
		loadsNot(t, b)
		loadsNot(t, append(two(1<<bit), 0, 0))
	}
}

// TestNoneCounts: where no subtable counts there are no pairs; all subtables are gone through.
func TestNoneCounts(t *testing.T) {
	loads(t, []byte{0, 0, 0, 0}, nil)
	loads(t, []byte{0, 0, 0, 0, 9, 9}, nil)
	// A subtable that is not one of those that are told of is not looked at.
	loads(t, append([]byte{0, 0, 0, 0}, subtable(1, bodyOf(somePairs(3)))...), nil)
	b := table(subtable(0, nil), subtable(2, []byte{1, 2, 3}), subtable(0x201, bodyOf(somePairs(3))))
	loads(t, b, nil)
	for less := range b {
		loadsNot(t, b[:less])
	}
	many := slices.Repeat([][]byte{subtable(0, nil)}, 65535)
	loads(t, table(many...), nil)
	many[65534] = subtable(1, bodyOf(somePairs(4)))
	loads(t, table(many...), somePairs(4))
	short := table(many[:65534]...)
	copy(short[2:], two(65535))
	loadsNot(t, short)
}

// TestCoverage goes through all coverages.
func TestCoverage(t *testing.T) {
	l := somePairs(2)
	for coverage := range 1 << 16 {
		p, e := kern.Load(table(subtable(coverage, bodyOf(l))))
		want := 0
		if coverage < 256 && coverage&1 != 0 && coverage&2 == 0 && coverage&4 == 0 {
			want = 2
		}
		if e != api.OK || p.Len() != want {
			t.Fatalf("coverage %#x: %d %d, want %d", coverage, p.Len(), e, want)
		}
	}
}

// TestTheFirstThatCounts: what stands behind it is not looked at.
func TestTheFirstThatCounts(t *testing.T) {
	first, second := somePairs(3), []api.Kern{{Left: 4, Right: 5, Value: 6}}
	other := subtable(0x100, bodyOf(somePairs(5)))
	loads(t, table(other, subtable(0xF9, bodyOf(first)), subtable(1, bodyOf(second))), first)
	loads(t, table(subtable(1, bodyOf(second)), subtable(1, bodyOf(first))), second)
	loads(t, table(subtable(1, bodyOf(nil)), subtable(1, bodyOf(first))), nil)
	for _, wrong := range [][]byte{{}, {1}, twos(0, 0, 1), twos(0, 5, 0), twos(0, 65535, 1), subtable(1, twos(9, 0, 0, 0))} {
		b := table(subtable(1, bodyOf(first)), wrong)
		loads(t, b, first)
		loadsNot(t, table(other, wrong, subtable(1, bodyOf(first)))[:4+len(other)+len(wrong)])
	}
	b := table(subtable(1, bodyOf(first)))
	copy(b[2:], two(65535))
	loads(t, b, first)
}

// TestLengths tells each length of a subtable that counts, and of one that does not.
func TestLengths(t *testing.T) {
	l := somePairs(3)
	body := append(bodyOf(l), 1, 2, 3, 4)
	for length := range 60 {
		b := table(subtable(1, body))
		copy(b[6:], two(length))
		if length >= 14+6*3 && length <= 6+len(body) {
			loads(t, b, l)
		} else {
			loadsNot(t, b)
		}
		b = table(subtable(0, make([]byte, 20)))
		copy(b[6:], two(length))
		if length >= 6 && length <= 26 {
			loads(t, b, nil)
		} else {
			loadsNot(t, b)
		}
	}
	// A length below 6 does not lead back to where another subtable may be read.
	for length := range 6 {
		loadsNot(t, append(table(twos(0, length, 0), subtable(1, bodyOf(l))), make([]byte, 30)...))
	}
}

// TestCountsOfPairs tells each number of pairs.
func TestCountsOfPairs(t *testing.T) {
	l := somePairs(4)
	for n := range 70 {
		b := table(subtable(1, bodyOf(l)), make([]byte, 300))
		copy(b[10:], two(n))
		if n <= 4 {
			loads(t, b, l[:n])
		} else {
			loadsNot(t, b)
		}
	}
	for _, n := range []int{mostPairs - 1, mostPairs} {
		l := somePairs(n)
		loads(t, table(subtable(1, bodyOf(l))), l)
	}
	b := table(subtable(1, bodyOf(somePairs(mostPairs))))
	copy(b[10:], two(mostPairs+1))
	loadsNot(t, append(b, make([]byte, 100)...))
	copy(b[10:], two(65535))
	loadsNot(t, append(b, make([]byte, 1<<19)...))
}

func TestNoPairs(t *testing.T) {
	p := kern.None()
	if p == nil {
		t.Fatal("None is nil")
	}
	are(t, p, nil)
	var none *kern.Pairs
	are(t, none, nil)
	for _, p := range []*kern.Pairs{p, none} {
		for _, x := range beyond() {
			if p.Value(x, 0) != 0 || p.Value(0, x) != 0 || p.Value(x, x) != 0 {
				t.Error("Value", x)
			}
		}
		for range p.All() {
			t.Error("All goes over something")
		}
	}
}

func beyond() []int {
	return []int{-1, 0, 1, 65535, 65536, 1 << 32, math.MinInt, math.MaxInt}
}

// TestOtherGlyphs: a pair is of both its glyphs, whole.
func TestOtherGlyphs(t *testing.T) {
	p, _ := kern.Load(putBytes([]api.Kern{{Left: 0, Right: 0, Value: 1}, {Left: 0, Right: 65535, Value: 2}, {Left: 65535, Right: 0, Value: 3}, {Left: 65535, Right: 65535, Value: 4}}))
	for _, left := range beyond() {
		for _, right := range beyond() {
			want := 0
			switch [2]int{left, right} {
			case [2]int{0, 0}:
				want = 1
			case [2]int{0, 65535}:
				want = 2
			case [2]int{65535, 0}:
				want = 3
			case [2]int{65535, 65535}:
				want = 4
			}
			if v := p.Value(left, right); v != want {
				t.Errorf("Value(%d, %d): %d, want %d", left, right, v, want)
			}
		}
	}
}

// TestAll is stopped at each pair, begun anew, and ranged over within itself.
func TestAll(t *testing.T) {
	l := somePairs(7)
	p, _ := kern.Load(putBytes(l))
	all := p.All()
	for stop := range l {
		var got []api.Kern
		for x := range all {
			got = append(got, x)
			if len(got) == stop+1 {
				break
			}
		}
		if !slices.Equal(got, l[:stop+1]) {
			t.Error(stop, got)
		}
	}
	count := 0
	for x := range all {
		for y := range all {
			if x == y {
				count++
			}
		}
	}
	if count != len(l) {
		t.Error(count)
	}
	are(t, p, l)
}

// TestPairsAreTheirOwn changes what was handed in, and what was answered.
func TestPairsAreTheirOwn(t *testing.T) {
	room := somePairs(9)
	were := slices.Clone(room)
	first, _ := kern.Put(room[:5])
	spare := first[:cap(first)]
	for i := range spare {
		spare[i] = 0xAA
	}
	if !slices.Equal(room, were) {
		t.Error("pairs are changed")
	}
	puts(t, room[:5])
	b := append(table(subtable(1, bodyOf(room))), 7, 7, 7)
	bytesWere := slices.Clone(b)
	p, _ := kern.Load(b[:len(b)-3])
	if !bytes.Equal(b, bytesWere) {
		t.Error("bytes are changed")
	}
	clear(b)
	are(t, p, room)
	got := slices.Collect(p.All())
	clear(got)
	are(t, p, room)
}

// plainly is the pairs of a table as the chapter has them, read byte by byte.
func plainly(b []byte) ([]api.Kern, bool) {
	if len(b) < 4 || b[0] != 0 || b[1] != 0 {
		return nil, false
	}
	at := 4
	for range int(b[2])<<8 | int(b[3]) {
		if len(b) < at+6 {
			return nil, false
		}
		length := int(b[at+2])<<8 | int(b[at+3])
		if length < 6 || len(b) < at+length {
			return nil, false
		}
		if b[at+4] == 0 && b[at+5]%8 == 1 {
			return pairsPlainly(b[at+6 : at+length])
		}
		at += length
	}
	return nil, true
}

func pairsPlainly(b []byte) ([]api.Kern, bool) {
	var l []api.Kern
	if len(b) < 8 {
		return nil, false
	}
	n, last := int(b[0])<<8|int(b[1]), -1
	b = b[8:]
	for range n {
		if len(b) < 6 {
			return nil, false
		}
		x := api.Kern{Left: int(b[0])<<8 | int(b[1]), Right: int(b[2])<<8 | int(b[3]), Value: int(int8(b[4]))<<8 | int(b[5])}
		if x.Left<<16|x.Right <= last {
			return nil, false
		}
		last = x.Left<<16 | x.Right
		l, b = append(l, x), b[6:]
	}
	return l, true
}

// TestDrawnTables draws tables, changes some of their bytes, and holds them against a plain reckoning.
func TestDrawnTables(t *testing.T) {
	draw := rand.New(rand.NewSource(1))
	count := map[bool]int{}
	for range 30000 {
		var subtables [][]byte
		for range draw.Intn(4) {
			coverage := []int{1, 1, 0, 3, 5, 0x101, 9}[draw.Intn(7)]
			b := subtable(coverage, append(bodyOf(somePairs(draw.Intn(5))), make([]byte, draw.Intn(3))...))
			subtables = append(subtables, b)
		}
		b := append(table(subtables...), make([]byte, draw.Intn(3))...)
		for range draw.Intn(4) {
			b[draw.Intn(len(b))] = byte(draw.Intn(40) - 10)
		}
		b = b[:len(b)-draw.Intn(2)*draw.Intn(len(b))]
		l, may := plainly(b)
		count[may]++
		if may {
			loads(t, b, l)
		} else {
			loadsNot(t, b)
		}
	}
	if count[true] < 5000 || count[false] < 5000 {
		t.Error("not of all kinds:", count)
	}
}

// TestDrawnPairs draws pairs, and puts and loads them.
func TestDrawnPairs(t *testing.T) {
	draw := rand.New(rand.NewSource(2))
	for range 300 {
		values := map[[2]int]int{}
		for range draw.Intn(60) {
			values[[2]int{draw.Intn(8), draw.Intn(8)}] = draw.Intn(1<<16) - 1<<15
		}
		var l []api.Kern
		for left := range 8 {
			for right := range 8 {
				if v, ok := values[[2]int{left, right}]; ok {
					l = append(l, api.Kern{Left: left, Right: right, Value: v})
				}
			}
		}
		puts(t, l)
	}
}
