package load_test

import (
	"slices"
	"testing"

	"plait/api"
	"plait/arena"
	"plait/load"
	"plait/model"
	"plait/sphere"
)

// hoop is a model of as many vertices as edges, each joined with the next one, all
// round.
func hoop(n int) model.Model {
	m := model.Model{N: n, Vertices: lives(n), Edges: lives(n), L: make([]model.Edge, n)}
	for e := range n {
		to, before := (e+1)%n, (e+n-1)%n
		m.L[e] = edge(uint32(e), uint32(2*before+1), uint32(to), uint32(2*to), int32(-e))
	}
	return m
}

// checkGreat fails unless a great model is loaded, and dumped, as it is.
func checkGreat(t *testing.T, m model.Model) *load.State {
	t.Helper()
	s, err := load.Of(m)
	checkErr(t, "Of", err, 0)
	b, err := s.Dump()
	checkErr(t, "Dump", err, 0)
	again, err := load.Load(b, m.N)
	checkErr(t, "Load", err, 0)
	got, err := again.Model()
	checkErr(t, "Model", err, 0)
	if !same(got, m) {
		t.Fatal("Model of Load of Dump of Of: another model")
	}
	checkNoLoad(t, b, m.N-1)
	checkNoLoad(t, b[:len(b)-1], m.N)
	return again
}

// LO1 to LO3: all vertices and all edges that there may be.
func TestGreatHoop(t *testing.T) {
	s := checkGreat(t, hoop(most))
	if got, want := s.Map.Counts(), (sphere.Counts{V: most, E: most, F: 2, C: 1}); got != want {
		t.Fatalf("Counts: %v, want %v", got, want)
	}
	if got, want := s.Map.Sum(), -int64(most)*(most-1)/2; got != want {
		t.Fatalf("Sum: %d, want %d", got, want)
	}
	is, err := s.Map.Marked(0)
	checkErr(t, "Marked", err, 0)
	if is {
		t.Fatal("the greatest edge of a ring is marked")
	}
	_, err = s.Vertices.Add()
	checkErr(t, "Add of a vertex", err, api.ErrFull)
	_, err = do(s, step{kind: "join", a: behind(0, 0), b: behind(0, 0)})
	checkErr(t, "join", err, api.ErrFull)
	h, err := do(s, step{kind: "part", at: most - 1})
	checkErr(t, "part", err, 0)
	if want := (api.Handle{Age: 1, At: most - 1}); h != want {
		t.Fatalf("part: %v, want %v", h, want)
	}
	m, err := s.Model()
	checkErr(t, "Model", err, 0)
	if m.Edges[most-1] != free(1) || m.L[most-1] != (model.Edge{}) || m.L[0] != edge(0, 0, 1, 2, 0) {
		t.Fatalf("an edge less: %v, %v, %v", m.Edges[most-1], m.L[most-1], m.L[0])
	}
}

// LO1 to LO3: places far apart, and all places worn.
func TestGreatParts(t *testing.T) {
	m := model.Model{N: most, Vertices: make([]arena.Place, most), Edges: make([]arena.Place, most), L: make([]model.Edge, most)}
	m.Vertices[most-1], m.Edges[most-1] = live(1), live(1)
	m.L[most-1] = edge(most-1, 2*most-1, most-1, 2*most-2, 5)
	s := checkGreat(t, m)
	checkErr(t, "AddVertex", s.Map.AddVertex(most-2), 0)
	checkNothing(t, "a vertex that was not given", s, api.ErrLoad)

	gone := slices.Repeat([]arena.Place{worn()}, most)
	s = checkGreat(t, model.Model{N: most, Vertices: gone, Edges: gone, L: make([]model.Edge, most)})
	_, err := s.Vertices.Add()
	checkErr(t, "Add of a vertex", err, api.ErrFull)
	checkGreat(t, model.Model{N: most, Vertices: lives(most)})
}

// A state with much room of which little is used is told at once: to go over all
// of the room each time would take minutes.
func TestToldAtOnce(t *testing.T) {
	s, err := load.New(most)
	checkErr(t, "New", err, 0)
	p := newPlain(most)
	for _, x := range []step{{kind: "add"}, {kind: "add"}, {kind: "join", a: alone(0), b: alone(1), w: 3}} {
		_, err := do(s, x)
		checkErr(t, x.kind, err, 0)
		p.do(x)
	}
	want := p.model()
	for range 100000 {
		m, err := s.Model()
		checkErr(t, "Model", err, 0)
		if !same(m, want) {
			t.Fatalf("Model: %v, want %v", m, want)
		}
	}
}
