package kin

import "plait/turn"

// tour is a way round trees that grow while it goes: to what is new first, and
// back when all darts of a vertex were looked at. So each edge that is not of a
// tree leads from a vertex to one that the tour is still on its way back to, and
// one of a tree is a bridge, unless such an edge leads past it.
type tour struct {
	t *turn.Turns
	// place is of each vertex how many were reached, with it, when it was; 0: it
	// was not.
	place []int
	// low is of each vertex the lowest place that edges which are of no tree lead
	// to, from it and from what was reached from it on; or, if lower, its own one.
	low []int
	// grown tells of each edge whether it is of a tree.
	grown   []bool
	count   int
	bridges []int
}

// newTour has reached nothing.
func newTour(t *turn.Turns) *tour {
	vertices, edges := t.Sizes()
	return &tour{t: t, place: make([]int, vertices), low: make([]int, vertices), grown: make([]bool, edges)}
}

// reached tells whether a vertex was.
func (s *tour) reached(v int) bool { return s.place[v] != 0 }

// goRound goes over all that hangs together with a dart's vertex, none of which
// was reached.
func (s *tour) goRound(first int) {
	s.enter(origin(s.t, first))
	for d := s.look(first); d != first; {
		d = s.look(d)
	}
}

// look goes on over a dart, or past it; the dart that is looked at next. Each
// is looked at once.
func (s *tour) look(d int) int {
	from, to := origin(s.t, d), head(s.t, d)
	switch {
	case !s.reached(to):
		s.grown[edge(d)] = true
		s.enter(to)
		return behind(s.t, twin(d))
	case s.grown[edge(d)]:
		s.leave(from, to, edge(d))
		return behind(s.t, twin(d))
	}
	s.lower(from, s.place[to])
	return behind(s.t, d)
}

// enter gives a vertex that is new its place.
func (s *tour) enter(v int) {
	s.count++
	s.place[v], s.low[v] = s.count, s.count
}

// leave goes back from a vertex over the edge by which it was reached: a bridge,
// if nothing leads from there to where the tour had been ahead of it.
func (s *tour) leave(from, to, e int) {
	if s.low[from] == s.place[from] {
		s.bridges = append(s.bridges, e)
	}
	s.lower(to, s.low[from])
}

// lower notes a place that edges lead to from a vertex, or from behind it.
func (s *tour) lower(v, place int) { s.low[v] = min(s.low[v], place) }
