package region

import (
	"cmp"
	"iter"
	"maps"
	"slices"

	"compositor/api"
	"compositor/rect"
)

// choice tells, from the lists that have a point, whether it belongs to a set. A point that no list has does not.
type choice func(inA, inB bool) bool

func inEither(inA, inB bool) bool { return inA || inB }
func inBoth(inA, inB bool) bool   { return inA && inB }
func inFirst(inA, inB bool) bool  { return inA && !inB }
func inOne(inA, inB bool) bool    { return inA != inB }

// counts are the numbers of rectangles of the lists a and b that have a point.
type counts struct{ a, b int }

func (c counts) plus(d counts) counts {
	return counts{c.a + d.a, c.b + d.b}
}

func (c counts) negative() counts {
	return counts{-c.a, -c.b}
}

// edge is a column at which the counts of the points of a row change, compared with the column to the left.
type edge struct {
	x    int
	step counts
}

// strips yields the points that keep selects, from top to bottom in strips of rows in which no rectangle begins or ends: the maximal runs of the rows of a strip, from left to right. It leaves out strips without points. Strips may be parts of the same band. All are yielded in the same memory, as there may be many long ones.
func strips(a, b []api.Rect, keep choice) iter.Seq[[]api.Rect] {
	return func(yield func([]api.Rect) bool) {
		changes := changesByRow(a, b)
		var edges, spare []edge
		var strip []api.Rect
		top := 0
		for _, y := range slices.Sorted(maps.Keys(changes)) {
			strip = appendRuns(strip[:0], edges, top, y, keep)
			if len(strip) > 0 && !yield(strip) {
				return
			}
			edges, spare = appendSum(spare[:0], edges, changes[y]), edges
			top = y
		}
	}
}

// changesByRow returns the rows at which rectangles begin or end, each with what changes there: the edges of the row minus those of the row above, in any order.
func changesByRow(a, b []api.Rect) map[int][]edge {
	rows := map[int][]edge{}
	add := func(l []api.Rect, in counts) {
		out := in.negative()
		for _, r := range l {
			if rect.Empty(r) {
				continue
			}
			rows[r.Y0] = append(rows[r.Y0], edge{r.X0, in}, edge{r.X1, out})
			rows[r.Y1] = append(rows[r.Y1], edge{r.X0, out}, edge{r.X1, in})
		}
	}
	add(a, counts{a: 1})
	add(b, counts{b: 1})
	return rows
}

// appendSum appends to sum, which is empty, the sum of edges, which are sorted by their columns, and changes, which it sorts: at most one edge for each column. It does not search for the place of each change, so that a row may have many.
func appendSum(sum, edges, changes []edge) []edge {
	slices.SortFunc(changes, func(p, q edge) int { return cmp.Compare(p.x, q.x) })
	for _, c := range changes {
		for len(edges) > 0 && edges[0].x <= c.x {
			sum = append(sum, edges[0])
			edges = edges[1:]
		}
		sum = addLast(sum, c)
	}
	return append(sum, edges...)
}

// addLast adds an edge whose column is not before those of the list.
func addLast(l []edge, e edge) []edge {
	last := len(l) - 1
	if last < 0 || l[last].x != e.x {
		return append(l, e)
	}
	l[last].step = l[last].step.plus(e.step)
	if l[last].step == (counts{}) {
		return l[:last]
	}
	return l
}

// appendRuns appends the maximal runs of columns whose points keep selects, as rectangles with the rows from y0 to y1.
func appendRuns(out []api.Rect, edges []edge, y0, y1 int, keep choice) []api.Rect {
	var n counts
	inside := false
	for _, e := range edges {
		n = n.plus(e.step)
		kept := keep(n.a > 0, n.b > 0)
		if kept && !inside {
			out = append(out, api.Rect{X0: e.x, Y0: y0, Y1: y1})
		}
		if inside && !kept {
			out[len(out)-1].X1 = e.x
		}
		inside = kept
	}
	return out
}
