package load_test

import (
	"bytes"
	"cmp"
	"errors"
	"math"
	"slices"
	"testing"

	"plait/api"
	"plait/arena"
	"plait/load"
	"plait/model"
	"plait/sphere"
	"plait/turn"
)

// most is how many places there are at most, lastAge the age of a place that is
// not given again, and none no dart.
const (
	most    = 1 << 20
	lastAge = math.MaxUint32
	none    = -1
)

// checkErr fails unless err is the number want (0: nil), as errors.As finds it.
func checkErr(t *testing.T, what string, err error, want api.Errno) {
	t.Helper()
	if want == 0 {
		if err != nil {
			t.Fatalf("%s: error %v, want none", what, err)
		}
		return
	}
	var e api.Errno
	if !errors.As(err, &e) || e != want {
		t.Fatalf("%s: error %v, want %v", what, err, want)
	}
}

// live, free and worn are places of an age.
func live(age uint32) arena.Place { return arena.Place{Age: age, Is: 1} }
func free(age uint32) arena.Place { return arena.Place{Age: age} }
func worn() arena.Place           { return arena.Place{Age: lastAge, Is: 2} }

// lives are so many live places of the age 1.
func lives(n int) []arena.Place { return slices.Repeat([]arena.Place{live(1)}, n) }

// edge is an edge of which each dart's vertex, and the dart behind it, is told.
func edge(from0, next0, from1, next1 uint32, w int32) model.Edge {
	return model.Edge{From: [2]uint32{from0, from1}, Next: [2]uint32{next0, next1}, W: w}
}

// same tells whether two models are one.
func same(a, b model.Model) bool {
	return a.N == b.N && slices.Equal(a.Vertices, b.Vertices) && slices.Equal(a.Edges, b.Edges) && slices.Equal(a.L, b.L)
}

// clone is a model of its own memory.
func clone(m model.Model) model.Model {
	return model.Model{N: m.N, Vertices: slices.Clone(m.Vertices), Edges: slices.Clone(m.Edges), L: slices.Clone(m.L)}
}

// number are the four bytes of a number.
func number(v uint32) []byte {
	return []byte{byte(v >> 24), byte(v >> 16), byte(v >> 8), byte(v)}
}

// plain is a state as plain lists: the places of the vertices and of the edges,
// which darts stand round each vertex, and the edges' weights.
type plain struct {
	n               int
	vertices, edges []arena.Place
	rows            [][]int
	w               []int32
}

func newPlain(n int) *plain {
	return &plain{n: n, rows: make([][]int, n), w: make([]int32, n)}
}

// plainOf is the state that a model tells of.
func plainOf(m model.Model) *plain {
	p := newPlain(m.N)
	p.vertices, p.edges = slices.Clone(m.Vertices), slices.Clone(m.Edges)
	for e, x := range m.L {
		p.w[e] = x.W
		for side := range 2 {
			v := x.From[side]
			if p.edges[e].Is != 1 || len(p.rows[v]) > 0 {
				continue
			}
			first := uint32(2*e + side)
			p.rows[v] = []int{int(first)}
			for d := x.Next[side]; d != first; d = m.L[d/2].Next[d%2] {
				p.rows[v] = append(p.rows[v], int(d))
			}
		}
	}
	return p
}

// isLive tells whether a place is there, and live.
func isLive(l []arena.Place, at int) bool { return at >= 0 && at < len(l) && l[at].Is == 1 }

// origin is where a dart stands, or none.
func (p *plain) origin(d int) int {
	return slices.IndexFunc(p.rows, func(row []int) bool { return slices.Contains(row, d) })
}

// next is the dart behind one that is laid, round its vertex.
func (p *plain) next(d int) int {
	row := p.rows[p.origin(d)]
	return row[(slices.Index(row, d)+1)%len(row)]
}

// model is what Model is to answer.
func (p *plain) model() model.Model {
	m := model.Model{N: p.n, Vertices: p.vertices, Edges: p.edges, L: make([]model.Edge, len(p.edges))}
	for e := range p.edges {
		if isLive(p.edges, e) {
			from := func(d int) uint32 { return uint32(p.origin(d)) }
			next := func(d int) uint32 { return uint32(p.next(d)) }
			m.L[e] = edge(from(2*e), next(2*e), from(2*e+1), next(2*e+1), p.w[e])
		}
	}
	return clone(m)
}

// bytes are what Dump is to answer.
func (p *plain) bytes() []byte {
	out := slices.Concat(number(uint32(p.n)), number(uint32(len(p.vertices))))
	for _, x := range p.vertices {
		out = append(append(out, number(x.Age)...), byte(x.Is))
	}
	out = append(out, number(uint32(len(p.edges)))...)
	for e, x := range p.edges {
		out = append(append(out, number(x.Age)...), byte(x.Is))
		if x.Is == 1 {
			for d := 2 * e; d < 2*e+2; d++ {
				out = slices.Concat(out, number(uint32(p.origin(d))), number(uint32(p.next(d))))
			}
			out = append(out, number(uint32(p.w[e]))...)
		}
	}
	return out
}

// give gives the lowest free one of n places, of which some are listed.
func give(l []arena.Place, n int) ([]arena.Place, api.Handle, api.Errno) {
	at := slices.IndexFunc(l, func(p arena.Place) bool { return p.Is == 0 })
	if at == none {
		at = len(l)
	}
	if at == n {
		return l, api.Handle{}, api.ErrFull
	}
	if at == len(l) {
		l = append(l, arena.Place{})
	}
	l[at] = live(l[at].Age + 1)
	return l, api.Handle{Age: l[at].Age, At: uint32(at)}, 0
}

// takeBack takes a place back that is live.
func takeBack(l []arena.Place, at int) {
	l[at].Is = 0
	if l[at].Age == lastAge {
		l[at].Is = 2
	}
}

// corners are all that there are.
func (p *plain) corners() []turn.Corner {
	var out []turn.Corner
	for v := range p.vertices {
		if isLive(p.vertices, v) && len(p.rows[v]) == 0 {
			out = append(out, alone(v))
		}
		for _, d := range p.rows[v] {
			out = append(out, behind(v, d))
		}
	}
	return out
}

// behind is the corner behind a dart, and alone that of a vertex without any.
func behind(v, d int) turn.Corner { return turn.Corner{Vertex: v, Behind: d} }
func alone(v int) turn.Corner     { return turn.Corner{Vertex: v, Behind: none} }

// put lays a dart behind another one, or alone.
func (p *plain) put(d int, c turn.Corner) {
	row := p.rows[c.Vertex]
	p.rows[c.Vertex] = slices.Insert(row, slices.Index(row, c.Behind)+1, d)
}

// checkState fails unless a state is just as the lists tell it, in all its parts
// and as a list and as bytes.
func (p *plain) checkState(t *testing.T, s *load.State) {
	t.Helper()
	if s == nil || s.Vertices == nil || s.Edges == nil || s.Map == nil {
		t.Fatalf("%v beside no error", s)
	}
	checkPlaces(t, "vertices", s.Vertices, p.n, p.vertices)
	checkPlaces(t, "edges", s.Edges, p.n, p.edges)
	p.checkMap(t, s)
	p.checkTold(t, s)
}

// checkTold fails unless Model and Dump are what the lists tell.
func (p *plain) checkTold(t *testing.T, s *load.State) {
	t.Helper()
	m, err := s.Model()
	checkErr(t, "Model", err, 0)
	if want := p.model(); !same(m, want) {
		t.Fatalf("Model: %v, want %v", m, want)
	}
	b, err := s.Dump()
	checkErr(t, "Dump", err, 0)
	if want := p.bytes(); !bytes.Equal(b, want) {
		t.Fatalf("Dump: %v, want %v", b, want)
	}
}

// checkPlaces fails unless an arena has just n places, which begin so.
func checkPlaces(t *testing.T, what string, a *arena.Arena, n int, l []arena.Place) {
	t.Helper()
	if got := a.Places(); !slices.Equal(got, l) {
		t.Fatalf("%s: %v, want %v", what, got, l)
	}
	for at, want := range map[int]api.Errno{-1: api.ErrRange, n - 1: api.ErrStale, n: api.ErrRange} {
		if isLive(l, at) {
			want = 0
		}
		_, err := a.Handle(at)
		checkErr(t, what+": a place's handle", err, want)
	}
}

// checkMap fails unless the map has just what the lists tell.
func (p *plain) checkMap(t *testing.T, s *load.State) {
	t.Helper()
	if got := s.Map.Room(); got != p.n {
		t.Fatalf("Room: %d, want %d", got, p.n)
	}
	for x := range p.n {
		if got, want := s.Map.Live(x), isLive(p.vertices, x); got != want {
			t.Fatalf("the vertex %d is laid: %v, want %v", x, got, want)
		}
		is := isLive(p.edges, x)
		if got := s.Map.Has(x); got != is {
			t.Fatalf("the edge %d is laid: %v, want %v", x, got, is)
		}
		if is {
			p.checkEdge(t, s, x)
		}
	}
	p.checkSum(t, s)
}

// checkEdge fails unless an edge that is laid is as the lists tell.
func (p *plain) checkEdge(t *testing.T, s *load.State, e int) {
	t.Helper()
	w, err := s.Map.Weight(e)
	checkErr(t, "Weight", err, 0)
	if w != p.w[e] {
		t.Fatalf("the edge %d weighs %d, want %d", e, w, p.w[e])
	}
	for d := 2 * e; d < 2*e+2; d++ {
		v, err := s.Map.Origin(d)
		checkErr(t, "Origin", err, 0)
		next, err := s.Map.Next(d)
		checkErr(t, "Next", err, 0)
		if v != p.origin(d) || next != p.next(d) {
			t.Fatalf("the dart %d stands at %d ahead of %d, want %d and %d", d, v, next, p.origin(d), p.next(d))
		}
	}
}

// checkSum fails unless the numbers are those of the lists, and the marked edges
// a tree of the least sum: the map was laid with its weights, and wholly.
func (p *plain) checkSum(t *testing.T, s *load.State) {
	t.Helper()
	group := make([]int, p.n)
	for v := range group {
		group[v] = v
	}
	var order []int
	for e := range p.edges {
		if isLive(p.edges, e) {
			order = append(order, e)
		}
	}
	slices.SortStableFunc(order, func(a, b int) int { return cmp.Compare(p.w[a], p.w[b]) })
	sum, marked := int64(0), 0
	for _, e := range order {
		a, b := group[p.origin(2*e)], group[p.origin(2*e+1)]
		is, err := s.Map.Marked(e)
		checkErr(t, "Marked", err, 0)
		if is != (a != b) {
			t.Fatalf("the edge %d is marked: %v, want %v", e, is, a != b)
		}
		if a == b {
			continue
		}
		sum, marked = sum+int64(p.w[e]), marked+1
		for v, x := range group {
			if x == b {
				group[v] = a
			}
		}
	}
	v := 0
	for at := range p.vertices {
		if isLive(p.vertices, at) {
			v++
		}
	}
	parts := v - marked
	if got, want := s.Map.Counts(), (sphere.Counts{V: v, E: len(order), F: 2*parts - v + len(order), C: parts}); got != want {
		t.Fatalf("Counts: %v, want %v", got, want)
	}
	if got := s.Map.Sum(); got != sum {
		t.Fatalf("Sum: %d, want %d", got, sum)
	}
}
