package kin

import (
	"cmp"
	"math"
	"slices"

	"plait/turn"
)

// none is no vertex, and no edge.
const none = -1

// far is how many edges a vertex is away that was not reached: more than any
// that was.
const far = math.MaxInt

// walk is how far one came who goes to the nearest vertices first.
type walk struct {
	t *turn.Turns
	// without is an edge that is not gone over, or none.
	without int
	// steps is of each vertex how many edges it is away from where the walk to
	// it began, or far.
	steps []int
}

// newWalk has reached nothing.
func newWalk(t *turn.Turns, without int) *walk {
	vertices, _ := t.Sizes()
	steps := make([]int, vertices)
	for v := range steps {
		steps[v] = far
	}
	return &walk{t: t, without: without, steps: steps}
}

// reached tells whether a vertex was.
func (w *walk) reached(v int) bool { return w.steps[v] != far }

// spread goes on from a vertex that was not reached, till a goal is (none: to
// the end); what it reached, the nearest ones first.
func (w *walk) spread(from, goal int) []int {
	w.steps[from] = 0
	list := []int{from}
	if from == goal {
		return list
	}
darts:
	for k := 0; k < len(list); k++ {
		v := list[k]
		for _, d := range around(w.t, v) {
			to := head(w.t, d)
			if w.reached(to) || edge(d) == w.without {
				continue
			}
			w.steps[to] = w.steps[v] + 1
			list = append(list, to)
			if to == goal {
				break darts
			}
		}
	}
	return list
}

// nearest is the dart that leads from a vertex, which has some, to one as near
// as can be to where the walk began; of several the least.
func (w *walk) nearest(v int) int {
	nearer := func(x, y int) int {
		a, b := head(w.t, x), head(w.t, y)
		return cmp.Or(cmp.Compare(w.steps[a], w.steps[b]), cmp.Compare(x, y))
	}
	return slices.MinFunc(around(w.t, v), nearer)
}

// sides are the darts of an edge that there is.
func sides(e int) (first, second int) { return 2 * e, 2*e + 1 }

// edge is a dart's edge.
func edge(d int) int { return d / 2 }

// twin is the other dart of a dart's edge.
func twin(d int) int { return d ^ 1 }

// around are the darts round a vertex that there is.
func around(t *turn.Turns, v int) []int {
	list, _ := t.Round(v)
	return list
}

// origin is the vertex where a dart that is laid stands.
func origin(t *turn.Turns, d int) int {
	v, _ := t.Origin(d)
	return v
}

// head is the vertex that a dart that is laid leads to.
func head(t *turn.Turns, d int) int { return origin(t, twin(d)) }

// behind is the dart behind one that is laid, round its vertex.
func behind(t *turn.Turns, d int) int {
	next, _ := t.Next(d)
	return next
}
