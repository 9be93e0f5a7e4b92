package exact_test

import (
	"cmp"
	"math/rand"
	"slices"
	"testing"

	"serif/api"
	"serif/exact"
	"serif/raster"
)

// plainConvex is whether closed lines are convex as the chapter writes it down; they may be.
func plainConvex(l [][]api.Dot) bool {
	if len(l) != 1 || len(l[0]) < 3 {
		return false
	}
	ring := l[0]
	n := len(ring)
	above, below := 0, 0
	for i := range n {
		p, q, r := ring[i], ring[(i+1)%n], ring[(i+2)%n]
		if p == q {
			return false
		}
		switch product := (q.X-p.X)*(r.Y-q.Y) - (r.X-q.X)*(q.Y-p.Y); {
		case product > 0:
			above++
		case product < 0:
			below++
		}
	}
	if above > 0 && below > 0 || above+below == 0 {
		return false
	}
	return plainChanges(ring, func(d api.Dot) int { return d.X }) <= 2 && plainChanges(ring, func(d api.Dot) int { return d.Y }) <= 2
}

// plainChanges goes round twice: first to know how the last step went that is not level, then to count.
func plainChanges(ring []api.Dot, number func(api.Dot) int) int {
	last, changes := 0, 0
	for i := range 2 * len(ring) {
		way := cmp.Compare(number(ring[(i+1)%len(ring)]), number(ring[i%len(ring)]))
		if way == 0 {
			continue
		}
		if i >= len(ring) && way == -last {
			changes++
		}
		last = way
	}
	return changes
}

func TestConvex(t *testing.T) {
	square := rectangle(0, 0, 8, 8)
	star := []api.Dot{dot(0, -100), dot(59, 81), dot(-95, -31), dot(95, -31), dot(-59, 81)}
	for name, x := range map[string]struct {
		l    [][]api.Dot
		want bool
	}{
		"nothing":             {nil, false},
		"no dots":             {flat(nil), false},
		"a dot":               {flat([]api.Dot{dot(5, 5)}), false},
		"two dots":            {flat([]api.Dot{dot(5, 5), dot(7, 9)}), false},
		"triangle":            {flat([]api.Dot{dot(0, 0), dot(8, 1), dot(3, 9)}), true},
		"square":              {flat(square), true},
		"square, turned":      {flat(turned(square)), true},
		"two squares":         {flat(square, square), false},
		"an empty list, too":  {flat(square, nil), false},
		"an empty list ahead": {flat(nil, square), false},
		"on edges":            {flat([]api.Dot{dot(0, 0), dot(3, 0), dot(8, 0), dot(8, 4), dot(8, 8), dot(4, 8), dot(0, 8), dot(0, 1)}), true},
		"one line":            {flat([]api.Dot{dot(0, 0), dot(4, 4), dot(8, 8)}), false},
		"there and back":      {flat([]api.Dot{dot(0, 0), dot(4, 4), dot(8, 8), dot(4, 4)}), false},
		"twice the same":      {flat([]api.Dot{dot(0, 0), dot(8, 0), dot(8, 0), dot(8, 8), dot(0, 8)}), false},
		"last as first":       {flat([]api.Dot{dot(0, 0), dot(8, 0), dot(8, 8), dot(0, 8), dot(0, 0)}), false},
		"twice round":         {flat(append(slices.Clone(square), square...)), false},
		"star":                {flat(star), false},
		"star, turned":        {flat(turned(star)), false},
		"dent":                {flat([]api.Dot{dot(0, 0), dot(8, 0), dot(8, 8), dot(4, 7), dot(0, 8)}), false},
		"bow tie":             {flat([]api.Dot{dot(0, 0), dot(8, 8), dot(8, 0), dot(0, 8)}), false},
		"spike":               {flat([]api.Dot{dot(0, 0), dot(8, 0), dot(12, 0), dot(8, 0), dot(8, 8), dot(0, 8)}), false},
		"over an edge":        {flat([]api.Dot{dot(0, 0), dot(12, 0), dot(8, 0), dot(8, 8), dot(0, 8)}), false},
		"to and fro":          {flat([]api.Dot{dot(0, 0), dot(6, 0), dot(2, 0), dot(8, 0), dot(8, 8), dot(0, 8)}), false},
		"up and down":         {flat([]api.Dot{dot(0, 0), dot(8, 0), dot(8, 6), dot(8, 2), dot(8, 8), dot(0, 8)}), false},
		"steep":               {flat([]api.Dot{dot(0, 0), dot(1, -100), dot(2, 0)}), true},
		"furthest":            {flat(rectangle(-most, -most, most, most)), true},
		"furthest, turned":    {flat(turned(rectangle(-most, -most, most, most))), true},
		"nearly one line":     {flat([]api.Dot{dot(-most, -most), dot(0, 0), dot(most, most-1), dot(most, most)}), false},
		"nearly one line too": {flat([]api.Dot{dot(-most, -most), dot(0, -1), dot(most, most)}), true},
		"thin":                {flat([]api.Dot{dot(-most, -most), dot(most, most-1), dot(most, most)}), true},
	} {
		if exact.Convex(x.l) != x.want || plainConvex(x.l) != x.want {
			t.Error(name, x.l, !x.want)
		}
	}
}

// TestAllRings: all rings of up to five dots of a small grid.
func TestAllRings(t *testing.T) {
	const side = 3
	convex := 0
	for n := range 6 {
		count := 1
		for range n {
			count *= side * side
		}
		for i := range count {
			var ring []api.Dot
			for range n {
				ring = append(ring, dot(i%side, i/side%side))
				i /= side * side
			}
			want := plainConvex(flat(ring))
			if exact.Convex(flat(ring)) != want {
				t.Fatal(ring, !want)
			}
			if want {
				convex++
			}
		}
	}
	if convex < 1000 {
		t.Error(convex)
	}
}

// hull is the convex ring round some dots, without those on its edges.
func hull(dots []api.Dot) []api.Dot {
	dots = slices.Clone(dots)
	slices.SortFunc(dots, func(a, b api.Dot) int { return cmp.Or(a.X-b.X, a.Y-b.Y) })
	dots = slices.Compact(dots)
	var ring []api.Dot
	for range 2 {
		start := len(ring)
		for _, d := range dots {
			for len(ring) >= start+2 {
				p, q := ring[len(ring)-2], ring[len(ring)-1]
				if (q.X-p.X)*(d.Y-q.Y)-(d.X-q.X)*(q.Y-p.Y) > 0 {
					break
				}
				ring = ring[:len(ring)-1]
			}
			ring = append(ring, d)
		}
		ring = ring[:len(ring)-1]
		slices.Reverse(dots)
	}
	return ring
}

// TestDrawnRings: convex ones, also with dots on their edges, begun elsewhere and turned; and with one dot moved.
func TestDrawnRings(t *testing.T) {
	draw := rand.New(rand.NewSource(245))
	for range 3000 {
		far := 2 << draw.Intn(20)
		var dots []api.Dot
		for range 3 + draw.Intn(20) {
			dots = append(dots, dot(draw.Intn(2*far+1)-far, draw.Intn(2*far+1)-far))
		}
		ring := hull(dots)
		if len(ring) < 3 {
			continue
		}
		i := draw.Intn(len(ring))
		ring = append(slices.Clone(ring[i:]), ring[:i]...)
		if last := ring[len(ring)-1]; (last.X+ring[0].X)%2 == 0 && (last.Y+ring[0].Y)%2 == 0 {
			ring = append(ring, dot((last.X+ring[0].X)/2, (last.Y+ring[0].Y)/2))
		}
		if slices.Contains(ring[:len(ring)-1], ring[len(ring)-1]) {
			continue // the middle of two dots that are neighbours is one of them in no grid
		}
		were := copyOf(flat(ring))
		for _, l := range [][][]api.Dot{flat(ring), flat(turned(ring))} {
			if !exact.Convex(l) {
				t.Fatal(l, "is not convex")
			}
		}
		if !same(were, flat(ring)) {
			t.Fatal("changes what is handed in")
		}
		ring[draw.Intn(len(ring))] = dots[draw.Intn(len(dots))]
		if want := plainConvex(flat(ring)); exact.Convex(flat(ring)) != want {
			t.Fatal(ring, !want)
		}
		draw.Shuffle(len(dots), func(i, j int) { dots[i], dots[j] = dots[j], dots[i] })
		if want := plainConvex(flat(dots)); exact.Convex(flat(dots)) != want {
			t.Fatal(dots, !want)
		}
	}
}

// TestMostDots: as many dots as may be, on the edges of a rectangle.
func TestMostDots(t *testing.T) {
	const side = 1 << 14
	var ring []api.Dot
	for i := range side {
		ring = append(ring, dot(i, 0))
	}
	for i := range side {
		ring = append(ring, dot(side, i))
	}
	for i := range side {
		ring = append(ring, dot(side-i, side))
	}
	for i := range side {
		ring = append(ring, dot(0, side-i))
	}
	if len(ring) != api.MaxDots || !exact.Convex(flat(ring)) || !exact.Convex(flat(turned(ring))) {
		t.Error(len(ring), "is not convex")
	}
	if exact.Convex(flat(append(slices.Clone(ring), dot(-1, 0)))) || exact.Convex(flat(append(slices.Clone(ring[1:]), dot(1, 1)))) {
		t.Error("is convex")
	}
}

// TestBytesOfConvexLines: a mask says what they cover, but for what lines that touch a pixel may leave.
func TestBytesOfConvexLines(t *testing.T) {
	draw := rand.New(rand.NewSource(246))
	for i := range 150 {
		far := 20 << draw.Intn(5)
		var dots []api.Dot
		for range 3 + draw.Intn(1+i%20) {
			dots = append(dots, dot(draw.Intn(2*far+1)-far, draw.Intn(2*far+1)-far))
		}
		l := flat(hull(dots))
		if i%2 == 0 {
			l = flat(turned(l[0]))
		}
		if !exact.Convex(l) {
			continue
		}
		m, e := raster.Fill(l)
		if e != api.OK {
			t.Fatal(l, e)
		}
		for y := m.Box.Y0 - 1; y <= m.Box.Y1; y++ {
			for x := m.Box.X0 - 1; x <= m.Box.X1; x++ {
				keepsItsByte(t, l, m, x, y)
			}
		}
	}
}
