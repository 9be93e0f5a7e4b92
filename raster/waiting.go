package raster

import (
	"container/heap"
	"iter"

	"serif/api"
	"serif/cover"
	"serif/fixed"
)

// line is a line that is not level, turned so that it goes down.
type line struct {
	from, to api.Dot
	at       api.Dot // what is above is done
	turned   bool
}

// bundle is lines that go on in the same row. They wait together, for a heap asks for many steps to take one thing out.
type bundle struct {
	row   int
	lines []line
}

// waiting is a heap of lines: those of the uppermost row are the first.
type waiting []bundle

func (w waiting) Len() int           { return len(w) }
func (w waiting) Less(i, j int) bool { return w[i].row < w[j].row }
func (w waiting) Swap(i, j int)      { w[i], w[j] = w[j], w[i] }
func (w *waiting) Push(x any)        { *w = append(*w, x.(bundle)) }

func (w *waiting) Pop() any {
	last := len(*w) - 1
	x := (*w)[last]
	*w = (*w)[:last]
	return x
}

// put lets lines wait, all for the same row.
func (w *waiting) put(row int, lines ...line) {
	if len(lines) > 0 {
		heap.Push(w, bundle{row, lines})
	}
}

// take takes out all lines of the uppermost row for which one waits.
func (w *waiting) take() (int, []line) {
	first := heap.Pop(w).(bundle)
	for w.Len() > 0 && (*w)[0].row == first.row {
		first.lines = append(first.lines, heap.Pop(w).(bundle).lines...)
	}
	return first.row, first.lines
}

// waitingOf is the lines of closed lines, each waiting for the row in which it begins.
func waitingOf(l [][]api.Dot) *waiting {
	var w waiting
	for s := range sloping(l) {
		w.put(fixed.Floor26(s.at.Y), s)
	}
	return &w
}

// sloping goes over all lines of closed lines but those that are level, which leave nothing.
func sloping(l [][]api.Dot) iter.Seq[line] {
	return func(yield func(line) bool) {
		for _, ring := range l {
			for i, a := range ring {
				d := ring[(i+1)%len(ring)]
				if a.Y == d.Y {
					continue
				}
				s := line{from: a, to: d, at: a}
				if a.Y > d.Y {
					s = line{from: d, to: a, at: d, turned: true}
				}
				if !yield(s) {
					return
				}
			}
		}
	}
}

// next is where a line leaves the row in which it goes on.
func (l line) next() api.Dot {
	y := (fixed.Floor26(l.at.Y) + 1) * api.One26
	if y >= l.to.Y {
		return l.to
	}
	// Near refuses nothing here: such products are 2^42 at most. The ends of the whole line count, as cover cuts it.
	x, _ := fixed.Near((l.to.X-l.from.X)*(y-l.from.Y), l.to.Y-l.from.Y)
	return api.Dot{X: l.from.X + x, Y: y}
}

// pass leaves in a row's cells what lines leave there, and is those of them that go on below.
func pass(row *cover.Cells, lines []line) []line {
	below := lines[:0]
	for _, l := range lines {
		next := l.next()
		// Line refuses nothing here: all dots lie in the row's box.
		if l.turned {
			row.Line(next, l.at)
		} else {
			row.Line(l.at, next)
		}
		if l.at = next; next != l.to {
			below = append(below, l)
		}
	}
	return below
}
