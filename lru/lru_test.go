package lru_test

import (
	"bytes"
	"math"
	"math/rand"
	"runtime"
	"slices"
	"sync"
	"testing"

	"serif/api"
	"serif/lru"
)

const mostBudget = 1 << 24

func box(x0, y0, x1, y1 int) api.Box { return api.Box{X0: x0, Y0: y0, X1: x1, Y1: y1} }

// key is one of many keys.
func key(n int) api.Key { return api.Key{Glyph: n, Ppem: 10} }

// row is a mask of so many bytes, all the same, in one row: none has no box.
func row(n int, c byte) api.Mask {
	if n == 0 {
		return api.Mask{}
	}
	return api.Mask{Box: box(0, 0, n, 1), Rows: bytes.Repeat([]byte{c}, n)}
}

func equal(a, b api.Mask) bool { return a.Box == b.Box && bytes.Equal(a.Rows, b.Rows) }

// entry is a key, and its mask.
type entry struct {
	k api.Key
	m api.Mask
}

// plain is a cache as the chapter writes it down: a list, the first one ahead.
type plain struct {
	budget int
	l      []entry
}

func (p *plain) held() int {
	n := 0
	for _, x := range p.l {
		n += 64 + len(x.m.Rows)
	}
	return n
}

func (p *plain) drop(k api.Key) bool {
	were := len(p.l)
	p.l = slices.DeleteFunc(slices.Clone(p.l), func(x entry) bool { return x.k == k })
	return len(p.l) < were
}

func (p *plain) get(k api.Key) (api.Mask, bool) {
	for _, x := range p.l {
		if x.k == k {
			p.drop(k)
			p.l = append([]entry{x}, p.l...)
			return x.m, true
		}
	}
	return api.Mask{}, false
}

func (p *plain) put(k api.Key, m api.Mask) bool {
	p.drop(k)
	if 64+len(m.Rows) > p.budget {
		return false
	}
	p.l = append([]entry{{k, m}}, p.l...)
	p.resize(p.budget)
	return true
}

func (p *plain) resize(budget int) {
	for p.budget = budget; p.held() > budget; {
		p.l = p.l[:len(p.l)-1]
	}
}

func (p *plain) keys() []api.Key {
	var l []api.Key
	for _, x := range p.l {
		l = append(l, x.k)
	}
	return l
}

// both is a cache, and a plain one, on which the same is done.
type both struct {
	t *testing.T
	c *lru.Cache
	p plain
}

func with(t *testing.T, budget int) *both {
	t.Helper()
	c, e := lru.New(budget)
	if e != api.OK || c == nil {
		t.Fatal(budget, c, e)
	}
	b := &both{t: t, c: c, p: plain{budget: budget}}
	b.same()
	return b
}

// same asks that both hold the same, in the same order; nothing is got, for that changes the order.
func (b *both) same() {
	b.t.Helper()
	if b.c.Len() != len(b.p.l) || b.c.Held() != b.p.held() || !slices.Equal(b.c.Keys(), b.p.keys()) {
		b.t.Fatal("have", b.c.Len(), b.c.Held(), b.c.Keys(), "should be", len(b.p.l), b.p.held(), b.p.keys())
	}
	if b.c.Held() > b.p.budget {
		b.t.Fatal("holds", b.c.Held(), "of", b.p.budget)
	}
}

func (b *both) get(k api.Key) {
	b.t.Helper()
	m, has := b.c.Get(k)
	want, should := b.p.get(k)
	if has != should || !equal(m, want) {
		b.t.Fatal(k, "have", m, has, "should be", want, should)
	}
	b.same()
}

func (b *both) put(k api.Key, m api.Mask) {
	b.t.Helper()
	is, e := b.c.Put(k, m)
	if should := b.p.put(k, m); is != should || e != api.OK {
		b.t.Fatal(k, m.Box, "have", is, e, "should be", should)
	}
	b.same()
}

func (b *both) drop(k api.Key) {
	b.t.Helper()
	is := b.c.Drop(k)
	if should := b.p.drop(k); is != should {
		b.t.Fatal(k, "have", is, "should be", should)
	}
	b.same()
}

func (b *both) resize(budget int) {
	b.t.Helper()
	if e := b.c.Resize(budget); e != api.OK {
		b.t.Fatal(budget, e)
	}
	b.p.resize(budget)
	b.same()
}

// all asks for the masks of all keys that are held, and of one that is not.
func (b *both) all() {
	b.t.Helper()
	for _, k := range b.p.keys() {
		b.get(k)
	}
	b.get(key(-99))
}

// isHeld asks for just these keys, in order, and what they cost.
func isHeld(t *testing.T, c *lru.Cache, held int, keys ...int) {
	t.Helper()
	var l []api.Key
	for _, n := range keys {
		l = append(l, key(n))
	}
	if c.Len() != len(keys) || c.Held() != held || !slices.Equal(c.Keys(), l) {
		t.Fatal("have", c.Len(), c.Held(), c.Keys(), "should be", len(keys), held, keys)
	}
}

// TestExample: of masks of 30 bytes a budget of 200 keeps two; the one that was not asked for goes first.
func TestExample(t *testing.T) {
	c, e := lru.New(200)
	if e != api.OK {
		t.Fatal(e)
	}
	for n := range 2 {
		if is, e := c.Put(key(n), row(30, byte(n))); !is || e != api.OK {
			t.Fatal(n, is, e)
		}
	}
	isHeld(t, c, 188, 1, 0)
	if m, has := c.Get(key(0)); !has || !equal(m, row(30, 0)) {
		t.Fatal(m, has)
	}
	isHeld(t, c, 188, 0, 1)
	if is, e := c.Put(key(2), row(30, 2)); !is || e != api.OK {
		t.Fatal(is, e)
	}
	isHeld(t, c, 188, 2, 0)
	if m, has := c.Get(key(1)); has || !equal(m, api.Mask{}) {
		t.Fatal(m, has)
	}
	isHeld(t, c, 188, 2, 0)
}

func TestNew(t *testing.T) {
	for _, budget := range []int{0, 1, 63, 64, 65, 1000, mostBudget - 1, mostBudget} {
		c := with(t, budget)
		c.get(key(0))
		c.drop(key(0))
		c.put(key(0), row(0, 0))
		c.put(key(1), row(1, 0))
	}
	for _, budget := range []int{-1, -64, mostBudget + 1, 1 << 32, 1 << 40, math.MinInt, math.MaxInt, math.MinInt32} {
		if c, e := lru.New(budget); c != nil || e != api.ErrArg {
			t.Error(budget, c, e)
		}
	}
}

// TestCosts: a mask is kept if its cost is the budget, and is not if it is one byte more.
func TestCosts(t *testing.T) {
	for _, n := range []int{0, 1, 2, 63, 64, 65, 500, 16384} {
		for _, more := range []int{-1, 0, 1} {
			budget := 64 + n + more
			c, _ := lru.New(budget)
			is, e := c.Put(key(5), row(n, 9))
			if is != (more >= 0) || e != api.OK {
				t.Fatal(n, budget, is, e)
			}
			if m, has := c.Get(key(5)); has != is || is && !equal(m, row(n, 9)) || !is && !equal(m, api.Mask{}) {
				t.Fatal(n, budget, m.Box, has)
			}
			if is {
				isHeld(t, c, 64+n, 5)
			} else {
				isHeld(t, c, 0)
			}
		}
	}
}

// TestNothingKept: a budget below the least cost keeps nothing.
func TestNothingKept(t *testing.T) {
	for _, budget := range []int{0, 1, 63} {
		c := with(t, budget)
		for n := range 5 {
			c.put(key(n), row(n, 1))
			c.get(key(n))
			c.drop(key(n))
		}
	}
}

// TestLast: the last ones are taken away, as many as must be, and no more.
func TestLast(t *testing.T) {
	for _, x := range []struct {
		budget int
		cost   int // of a mask that is put behind four of 100 each, 0 to 3
		held   int
		keys   []int
	}{
		{500, 100, 500, []int{9, 3, 2, 1, 0}},
		{499, 100, 400, []int{9, 3, 2, 1}},
		{400, 64, 364, []int{9, 3, 2, 1}},
		{464, 64, 464, []int{9, 3, 2, 1, 0}},
		{463, 64, 364, []int{9, 3, 2, 1}},
		{400, 100, 400, []int{9, 3, 2, 1}},
		{400, 101, 301, []int{9, 3, 2}},
		{400, 200, 400, []int{9, 3, 2}},
		{400, 201, 301, []int{9, 3}},
		{400, 300, 400, []int{9, 3}},
		{400, 301, 301, []int{9}},
		{400, 400, 400, []int{9}},
		{400, 401, 400, []int{3, 2, 1, 0}},
		{400, 4000, 400, []int{3, 2, 1, 0}},
	} {
		c, _ := lru.New(x.budget)
		for n := range 4 {
			c.Put(key(n), row(36, byte(n)))
		}
		isHeld(t, c, 400, 3, 2, 1, 0)
		if is, e := c.Put(key(9), row(x.cost-64, 9)); is != (x.cost <= x.budget) || e != api.OK {
			t.Error(x, is, e)
		}
		isHeld(t, c, x.held, x.keys...)
	}
}

// TestAgain: what is put again takes the place of what was there, is the first, and counts once.
func TestAgain(t *testing.T) {
	for _, x := range []struct {
		again int // whose mask is another one, of so many bytes
		n     int
		held  int
		keys  []int
	}{
		{0, 36, 300, []int{0, 2, 1}},
		{1, 36, 300, []int{1, 2, 0}},
		{2, 36, 300, []int{2, 1, 0}},
		{0, 0, 264, []int{0, 2, 1}},
		{0, 136, 400, []int{0, 2, 1}},
		{2, 136, 400, []int{2, 1, 0}},
		{2, 137, 301, []int{2, 1}},
		{0, 137, 301, []int{0, 2}},
		{1, 237, 301, []int{1}},
		{1, 336, 400, []int{1}},
		// A mask that is too large is not kept, and what was there ahead of it is gone.
		{0, 337, 200, []int{2, 1}},
		{1, 337, 200, []int{2, 0}},
		{2, 5000, 200, []int{1, 0}},
		{7, 5000, 300, []int{2, 1, 0}},
	} {
		c, _ := lru.New(400)
		for n := range 3 {
			c.Put(key(n), row(36, byte(n)))
		}
		is, e := c.Put(key(x.again), row(x.n, 200))
		if is != (x.n <= 336) || e != api.OK {
			t.Error(x, is, e)
		}
		isHeld(t, c, x.held, x.keys...)
		if m, has := c.Get(key(x.again)); has != is || is && !equal(m, row(x.n, 200)) {
			t.Error(x, m, has)
		}
	}
}

// TestGet: what is got is the first from then on; what is not there changes nothing.
func TestGet(t *testing.T) {
	c, _ := lru.New(1000)
	for n := range 4 {
		c.Put(key(n), row(n, byte(n)))
	}
	isHeld(t, c, 262, 3, 2, 1, 0)
	for _, x := range []struct {
		n    int
		keys []int
	}{
		{3, []int{3, 2, 1, 0}}, {0, []int{0, 3, 2, 1}}, {0, []int{0, 3, 2, 1}}, {2, []int{2, 0, 3, 1}}, {1, []int{1, 2, 0, 3}}, {7, []int{1, 2, 0, 3}}, {-1, []int{1, 2, 0, 3}}, {3, []int{3, 1, 2, 0}},
	} {
		m, has := c.Get(key(x.n))
		if should := 0 <= x.n && x.n < 4; has != should || should && !equal(m, row(x.n, byte(x.n))) || !should && !equal(m, api.Mask{}) {
			t.Error(x.n, m, has)
		}
		isHeld(t, c, 262, x.keys...)
	}
}

// TestKeys: each field of a key tells it from others, whatever numbers it has.
func TestKeys(t *testing.T) {
	var keys []api.Key
	for _, x := range []int{0, 1, -1, 1 << 32, math.MinInt, math.MaxInt} {
		if x != 0 {
			keys = append(keys, api.Key{Glyph: x}, api.Key{Ppem: x}, api.Key{PhaseX: x}, api.Key{PhaseY: x})
		}
		keys = append(keys, api.Key{Glyph: x, Ppem: x + 1, PhaseX: x + 2, PhaseY: x + 3})
	}
	c := with(t, 10000)
	for i, k := range keys {
		c.get(k)
		c.drop(k)
		c.put(k, row(i+1, byte(i)))
	}
	if c.c.Len() != len(keys) {
		t.Error(c.c.Len(), len(keys))
	}
	for _, k := range keys {
		c.get(k)
	}
	for _, k := range keys {
		c.drop(k)
		c.get(k)
	}
}

// TestMasks: masks come back byte by byte, with their boxes.
func TestMasks(t *testing.T) {
	draw := rand.New(rand.NewSource(25))
	c := with(t, 1<<20)
	for n, b := range []api.Box{{}, box(0, 0, 1, 1), box(-3, -2, 4, 5), box(-16384, 7, 16384, 8), box(16380, 16383, 16384, 16384), box(-16384, -16384, -16383, -16380), box(5, 5, 30, 6)} {
		m := api.Mask{Box: b, Rows: make([]byte, (b.X1-b.X0)*(b.Y1-b.Y0))}
		draw.Read(m.Rows)
		c.put(key(n), m)
	}
	// The empty list is the same as nil.
	c.put(key(100), api.Mask{Rows: []byte{}})
	c.all()
}

// TestLargest: masks of as many bytes as may be.
func TestLargest(t *testing.T) {
	large := func(c byte) api.Mask {
		return api.Mask{Box: box(0, 0, 2048, 2048), Rows: bytes.Repeat([]byte{c}, 1<<22)}
	}
	c := with(t, mostBudget)
	for n := range 5 {
		c.put(key(n), large(byte(n)))
	}
	isHeld(t, c.c, 3*(1<<22+64), 4, 3, 2)
	c.all()
	c.resize(1<<22 + 64)
	c.all()
	c.resize(1<<22 + 63)
	c.put(key(1), large(1))
	isHeld(t, c.c, 0)
}

// TestManyMasks: as many as fit into the greatest budget.
func TestManyMasks(t *testing.T) {
	c, _ := lru.New(mostBudget)
	most := mostBudget / 64
	for n := range most {
		if is, e := c.Put(key(n), api.Mask{}); !is || e != api.OK {
			t.Fatal(n, is, e)
		}
	}
	if c.Len() != most || c.Held() != mostBudget {
		t.Fatal(c.Len(), c.Held())
	}
	if _, has := c.Get(key(0)); !has {
		t.Fatal("the first one is gone")
	}
	c.Put(key(most), api.Mask{})
	if _, has := c.Get(key(1)); has || c.Len() != most || c.Held() != mostBudget {
		t.Fatal(has, c.Len(), c.Held())
	}
	keys := c.Keys()
	if len(keys) != most || keys[0] != key(most) || keys[1] != key(0) || keys[2] != key(most-1) || keys[most-1] != key(2) {
		t.Error(len(keys), keys[:3], keys[len(keys)-1])
	}
	if e := c.Resize(200); e != api.OK {
		t.Fatal(e)
	}
	left := []api.Key{key(most), key(0), key(most - 1)}
	if !slices.Equal(c.Keys(), left) || c.Held() != 192 {
		t.Error(c.Keys(), c.Held())
	}
}

// wrongMasks is some of each kind that may not be.
func wrongMasks() []api.Mask {
	var l []api.Mask
	add := func(b api.Box, n int) { l = append(l, api.Mask{Box: b, Rows: make([]byte, n)}) }
	add(api.Box{}, 1)
	add(box(0, 0, 2, 2), 3)
	add(box(0, 0, 2, 2), 5)
	add(box(0, 0, 2, 2), 0)
	add(box(1, 1, 1, 1), 0)
	add(box(0, 0, 1, 0), 0)
	add(box(1, 1, 0, 0), 1)
	add(box(16384, 0, 16385, 1), 1)
	add(box(0, -16385, 1, -16384), 1)
	add(box(0, 0, 2049, 2048), 2049*2048) // larger than budgets, too
	add(box(math.MinInt, math.MinInt, math.MaxInt, math.MaxInt), 0)
	return l
}

// TestWrongMasks: what is refused changes nothing, also not of the key's mask.
func TestWrongMasks(t *testing.T) {
	for _, budget := range []int{0, 63, 300, 400, mostBudget} {
		c := with(t, budget)
		for n := range 3 {
			c.put(key(n), row(36, byte(n)))
		}
		for _, m := range wrongMasks() {
			for n := range 5 {
				if is, e := c.c.Put(key(n), m); is || e != api.ErrMask {
					t.Fatal(budget, n, m.Box, len(m.Rows), is, e)
				}
				c.same()
			}
		}
		c.all()
	}
}

func TestDrop(t *testing.T) {
	c, _ := lru.New(1000)
	for n := range 5 {
		c.Put(key(n), row(n, byte(n)))
	}
	for _, x := range []struct {
		n    int
		was  bool
		held int
		keys []int
	}{
		{7, false, 330, []int{4, 3, 2, 1, 0}},
		{2, true, 264, []int{4, 3, 1, 0}},
		{2, false, 264, []int{4, 3, 1, 0}},
		{4, true, 196, []int{3, 1, 0}},
		{0, true, 132, []int{3, 1}},
		{1, true, 67, []int{3}},
		{3, true, 0, nil},
		{3, false, 0, nil},
	} {
		if was := c.Drop(key(x.n)); was != x.was {
			t.Error(x, was)
		}
		isHeld(t, c, x.held, x.keys...)
		if m, has := c.Get(key(x.n)); has || !equal(m, api.Mask{}) {
			t.Error(x, m, has)
		}
	}
	// Places that are free are used again, in whichever order they came free.
	for _, n := range []int{9, 2, 8} {
		c.Put(key(n), row(n, byte(n)))
	}
	isHeld(t, c, 211, 8, 2, 9)
}

func TestResize(t *testing.T) {
	for _, x := range []struct {
		budget int
		held   int
		keys   []int
	}{
		{mostBudget, 400, []int{3, 2, 1, 0}}, {401, 400, []int{3, 2, 1, 0}}, {400, 400, []int{3, 2, 1, 0}},
		{399, 300, []int{3, 2, 1}}, {300, 300, []int{3, 2, 1}}, {299, 200, []int{3, 2}}, {100, 100, []int{3}}, {99, 0, nil}, {1, 0, nil}, {0, 0, nil},
	} {
		c, _ := lru.New(400)
		for n := range 4 {
			c.Put(key(n), row(36, byte(n)))
		}
		if e := c.Resize(x.budget); e != api.OK {
			t.Error(x, e)
		}
		isHeld(t, c, x.held, x.keys...)
		// The budget is another one from then on.
		is, e := c.Put(key(9), row(136, 9))
		if is != (x.budget >= 200) || e != api.OK {
			t.Error(x, is, e)
		}
		if x.budget > 600 {
			isHeld(t, c, 600, 9, 3, 2, 1, 0)
		}
	}
}

// TestResizeRefused: the budget stays.
func TestResizeRefused(t *testing.T) {
	for _, budget := range []int{-1, -200, mostBudget + 1, 1 << 32, math.MinInt, math.MaxInt} {
		c := with(t, 300)
		for n := range 4 {
			c.put(key(n), row(36, byte(n)))
		}
		if e := c.c.Resize(budget); e != api.ErrArg {
			t.Error(budget, e)
		}
		c.same()
		c.put(key(5), row(36, 5))
		c.put(key(6), row(237, 6))
		c.put(key(7), row(236, 7))
		c.all()
	}
}

func TestNil(t *testing.T) {
	var c *lru.Cache
	for range 2 {
		if m, has := c.Get(key(1)); has || !equal(m, api.Mask{}) {
			t.Error(m, has)
		}
		for _, m := range append(wrongMasks(), row(0, 0), row(5, 5)) {
			if is, e := c.Put(key(1), m); is || e != api.ErrClosed {
				t.Error(m.Box, is, e)
			}
		}
		if c.Drop(key(1)) || c.Len() != 0 || c.Held() != 0 || len(c.Keys()) != 0 {
			t.Error(c.Len(), c.Held(), c.Keys())
		}
		for _, budget := range []int{0, 100, -1, math.MaxInt} {
			if e := c.Resize(budget); e != api.ErrClosed {
				t.Error(budget, e)
			}
		}
	}
}

// steps is all that is done to a cache in TestAllOrders.
func steps() []func(*both) {
	var l []func(*both)
	for n := range 3 {
		l = append(l,
			func(b *both) { b.get(key(n)) },
			func(b *both) { b.put(key(n), row(6, byte(n))) },
			func(b *both) { b.put(key(n), row(76, byte(10+n))) },
			func(b *both) { b.drop(key(n)) })
	}
	return append(l,
		func(b *both) { b.put(key(0), row(137, 1)) },
		func(b *both) { b.resize(140) },
		func(b *both) { b.resize(210) })
}

// TestAllOrders of some steps, each at each place.
func TestAllOrders(t *testing.T) {
	l := steps()
	var goOn func(ahead []int, n int)
	goOn = func(ahead []int, n int) {
		if n > 0 {
			for i := range l {
				goOn(append(slices.Clone(ahead), i), n-1)
			}
			return
		}
		b := with(t, 200)
		for _, i := range ahead {
			l[i](b)
		}
		b.all()
	}
	for n := range 5 {
		goOn(nil, n)
	}
}

// TestDrawn: long drawn orders of all that can be done.
func TestDrawn(t *testing.T) {
	draw := rand.New(rand.NewSource(250))
	for range 60 {
		b := with(t, draw.Intn(2000))
		for range 400 {
			k := key(draw.Intn(12))
			switch x := draw.Intn(40); {
			case x < 16:
				b.get(k)
			case x < 33:
				b.put(k, row(draw.Intn(1+draw.Intn(300)), byte(draw.Intn(256))))
			case x < 36:
				b.drop(k)
			case x < 37:
				b.resize(draw.Intn(3000))
			case x < 38:
				b.put(k, row(3000, 1))
			default:
				if is, e := b.c.Put(k, api.Mask{Rows: []byte{1}}); is || e != api.ErrMask {
					t.Fatal(is, e)
				}
				b.same()
			}
		}
		b.all()
	}
}

// TestMemory: what was handed in, or answered, is changed afterwards, its spare room too.
func TestMemory(t *testing.T) {
	fill := func(l []byte) {
		l = l[:cap(l)]
		for i := range l {
			l[i] = 77
		}
	}
	c, _ := lru.New(1000)
	room := []byte{1, 2, 3, 4, 5, 6}
	m := api.Mask{Box: box(0, 0, 2, 2), Rows: room[:4]}
	c.Put(key(1), m)
	c.Put(key(2), m)
	if !bytes.Equal(room, []byte{1, 2, 3, 4, 5, 6}) {
		t.Error("changes what is handed in", room)
	}
	fill(room)
	for range 3 {
		for _, k := range []api.Key{key(1), key(2)} {
			m, has := c.Get(k)
			if !has || !bytes.Equal(m.Rows, []byte{1, 2, 3, 4}) {
				t.Fatal(k, m, has)
			}
			fill(m.Rows)
		}
	}
	for range 3 {
		keys := c.Keys()
		if !slices.Equal(keys, []api.Key{key(2), key(1)}) {
			t.Fatal(keys)
		}
		keys = keys[:cap(keys)]
		for i := range keys {
			keys[i] = key(99)
		}
	}
	// A mask that was answered stays when the cache's is another one.
	got, _ := c.Get(key(1))
	c.Put(key(1), row(4, 9))
	c.Drop(key(1))
	c.Put(key(3), row(4, 8))
	if !bytes.Equal(got.Rows, []byte{1, 2, 3, 4}) {
		t.Error(got)
	}
}

// inUse is how much memory is in use.
func inUse() int {
	runtime.GC()
	var s runtime.MemStats
	runtime.ReadMemStats(&s)
	return int(s.HeapAlloc)
}

// TestLittleMemory: places that are free are used again, and masks that are taken away leave no bytes.
func TestLittleMemory(t *testing.T) {
	c, _ := lru.New(300)
	before := inUse()
	for n := range 200000 {
		c.Put(key(n), row(1+n%30, 1))
		if n%3 == 0 {
			c.Drop(key(n - 1))
		}
	}
	if more := inUse() - before; more > 4<<20 {
		t.Error("places need", more, "bytes more")
	}
	c.Resize(mostBudget)
	for n := range 15 {
		c.Put(key(n), api.Mask{Box: box(0, 0, 1024, 1024), Rows: make([]byte, 1<<20)})
	}
	for n := range 15 {
		c.Drop(key(n))
	}
	if more := inUse() - before; more > 4<<20 {
		t.Error("masks that were taken away need", more, "bytes")
	}
	runtime.KeepAlive(c)
}

// TestAtOnce: caches know nothing of one another.
func TestAtOnce(t *testing.T) {
	var all sync.WaitGroup
	for g := range 8 {
		all.Add(1)
		go func() {
			defer all.Done()
			c, _ := lru.New(300 + g)
			for n := range 300 {
				c.Put(key(n), row(g, byte(g)))
				if m, has := c.Get(key(n)); !has || !equal(m, row(g, byte(g))) {
					t.Error(g, n, m, has)
				}
			}
			if c.Len() != (300+g)/(64+g) {
				t.Error(g, c.Len())
			}
		}()
	}
	all.Wait()
}
