package load_test

import (
	"bytes"
	"fmt"
	"math"
	"math/rand"
	"slices"
	"testing"

	"plait/api"
	"plait/arena"
	"plait/core"
	"plait/load"
	"plait/model"
	"plait/sphere"
)

// wrongSizes are numbers of places that may not be; cut to 32 bits some may.
var wrongSizes = []int{0, -1, -2, -most, math.MinInt32, -1 << 32, 1 - 1<<32, math.MinInt, math.MinInt + 4, most + 1, most + 2, 2 * most, math.MaxInt32, math.MaxUint32, 1 << 32, 1<<32 + 1, 1<<32 + 5, 1<<40 + most, math.MaxInt}

// triangle is a model of a triangle of weights 1, -2, 3 and of a vertex alone, of
// which the place 2 of the edges is free now, and the vertices' place 1 worn.
func triangle() model.Model {
	return model.Model{
		N:        5,
		Vertices: []arena.Place{live(1), worn(), live(258), live(lastAge), live(2)},
		Edges:    []arena.Place{live(3), live(1), free(7), live(2)},
		L:        []model.Edge{edge(0, 7, 2, 2, 1), edge(2, 1, 3, 6, -2), {}, edge(3, 3, 0, 0, 3)},
	}
}

// triangleBytes are the same as bytes.
func triangleBytes() []byte {
	return []byte{
		0, 0, 0, 5,
		0, 0, 0, 5,
		0, 0, 0, 1, 1,
		255, 255, 255, 255, 2,
		0, 0, 1, 2, 1,
		255, 255, 255, 255, 1,
		0, 0, 0, 2, 1,
		0, 0, 0, 4,
		0, 0, 0, 3, 1, 0, 0, 0, 0, 0, 0, 0, 7, 0, 0, 0, 2, 0, 0, 0, 2, 0, 0, 0, 1,
		0, 0, 0, 1, 1, 0, 0, 0, 2, 0, 0, 0, 1, 0, 0, 0, 3, 0, 0, 0, 6, 255, 255, 255, 254,
		0, 0, 0, 7, 0,
		0, 0, 0, 2, 1, 0, 0, 0, 3, 0, 0, 0, 3, 0, 0, 0, 0, 0, 0, 0, 0, 0, 0, 0, 3,
	}
}

// The chapter's example.
func TestExample(t *testing.T) {
	s, err := load.New(1)
	checkErr(t, "New", err, 0)
	b, err := s.Dump()
	checkErr(t, "Dump", err, 0)
	if want := []byte{0, 0, 0, 1, 0, 0, 0, 0, 0, 0, 0, 0}; !bytes.Equal(b, want) {
		t.Fatalf("Dump: %v, want %v", b, want)
	}
}

// A state written out, so that the lists are held to something.
func TestWrittenOut(t *testing.T) {
	b := of(t, triangle())
	code, err := b.s.Dump()
	checkErr(t, "Dump", err, 0)
	if want := triangleBytes(); !bytes.Equal(code, want) {
		t.Fatalf("Dump: %v, want %v", code, want)
	}
	for _, c := range []both{b, b.again()} {
		c.p.checkState(t, c.s)
		if got, want := c.s.Map.Counts(), (sphere.Counts{V: 4, E: 3, F: 3, C: 2}); got != want {
			t.Fatalf("Counts: %v, want %v", got, want)
		}
		if got := c.s.Map.Sum(); got != -1 {
			t.Fatalf("Sum: %d, want -1", got)
		}
		for d, want := range map[int][]int{0: {0, 2, 6}, 1: {1, 7, 3}, 6: {6, 0, 2}} {
			face, err := c.s.Map.Face(d)
			checkErr(t, "Face", err, 0)
			if !slices.Equal(face, want) {
				t.Fatalf("Face of %d: %v, want %v", d, face, want)
			}
		}
		is, err := c.s.Map.Marked(3)
		checkErr(t, "Marked", err, 0)
		if is {
			t.Fatal("the greatest edge of a ring is marked")
		}
		h, err := c.s.Edges.Handle(0)
		checkErr(t, "Handle", err, 0)
		if want := (api.Handle{Age: 3}); h != want {
			t.Fatalf("Handle: %v, want %v", h, want)
		}
		h, err = c.s.Edges.Add()
		checkErr(t, "Add", err, 0)
		if want := (api.Handle{Age: 8, At: 2}); h != want {
			t.Fatalf("Add: %v, want %v", h, want)
		}
		_, err = c.s.Vertices.Add()
		checkErr(t, "Add of a vertex", err, api.ErrFull)
	}
}

// LO1: New.
func TestNew(t *testing.T) {
	for _, n := range []int{1, 2, 3, 64, 65} {
		b := newBoth(t, n)
		b.p.checkState(t, b.s)
		if b.s.Vertices == b.s.Edges {
			t.Fatal("one arena for both")
		}
		for v := range n {
			h, err := b.do(step{kind: "add"})
			checkErr(t, "add", err, 0)
			if want := (api.Handle{Age: 1, At: uint32(v)}); h != want {
				t.Fatalf("add: %v, want %v", h, want)
			}
		}
		b.p.checkState(t, b.s)
		for e := range n {
			h, err := b.do(step{kind: "join", a: alone(n - 1 - e), b: alone(n - 1 - e), w: 4})
			checkErr(t, "join", err, 0)
			if want := (api.Handle{Age: 1, At: uint32(e)}); h != want {
				t.Fatalf("join: %v, want %v", h, want)
			}
		}
		b.p.checkState(t, b.s)
		_, err := b.do(step{kind: "add"})
		checkErr(t, "one vertex too many", err, api.ErrFull)
		_, err = b.do(step{kind: "join", a: behind(0, 2*n-2), b: behind(0, 2*n-2)})
		checkErr(t, "one edge too many", err, api.ErrFull)
	}
}

func TestNewMost(t *testing.T) {
	for _, n := range []int{most - 1, most} {
		s, err := load.New(n)
		checkErr(t, "New", err, 0)
		checkPlaces(t, "vertices", s.Vertices, n, nil)
		checkPlaces(t, "edges", s.Edges, n, nil)
		if got := s.Map.Room(); got != n {
			t.Fatalf("Room: %d, want %d", got, n)
		}
		m, err := s.Model()
		checkErr(t, "Model", err, 0)
		if !same(m, model.Model{N: n}) {
			t.Fatalf("Model: %v", m)
		}
		checkErr(t, "AddVertex of the last", s.Map.AddVertex(n-1), 0)
		checkErr(t, "Join of the last", s.Map.Join(n-1, alone(n-1), alone(n-1), 1), 0)
	}
}

func TestNewWrong(t *testing.T) {
	for _, n := range wrongSizes {
		s, err := load.New(n)
		checkErr(t, "New", err, api.ErrArg)
		if s != nil {
			t.Fatalf("New(%d): %v beside an error", n, s)
		}
	}
}

// checkOf fails unless Of answers what is to be answered of a model, whether it
// may be or not; it tells that.
func checkOf(t *testing.T, m model.Model) bool {
	t.Helper()
	if model.Check(m) == nil {
		b := of(t, m)
		b.p.checkState(t, b.s)
		got, err := b.s.Model()
		checkErr(t, "Model", err, 0)
		if !same(got, m) {
			t.Fatalf("Model of Of: %v, want %v", got, m)
		}
		return true
	}
	checkNoOf(t, fmt.Sprint(m), m)
	return false
}

// checkNoOf fails unless of a model there is no state.
func checkNoOf(t *testing.T, what string, m model.Model) {
	t.Helper()
	s, err := load.Of(m)
	checkErr(t, "Of "+what, err, api.ErrLoad)
	if s != nil {
		t.Fatalf("Of %s: %v beside an error", what, s)
	}
}

// LO1, LO3: models that may be, written out.
func TestOf(t *testing.T) {
	for _, m := range []model.Model{
		{N: 1},
		{N: most},
		{N: 1, Vertices: []arena.Place{}, Edges: []arena.Place{}, L: []model.Edge{}},
		{N: 1, Vertices: lives(1)},
		{N: 3, Vertices: []arena.Place{free(0), worn(), free(2)}},
		{N: 2, Edges: []arena.Place{free(0), worn()}, L: make([]model.Edge, 2)},
		{N: 1, Vertices: lives(1), Edges: lives(1), L: []model.Edge{edge(0, 1, 0, 0, -9)}},
		{N: 2, Vertices: lives(2), Edges: lives(1), L: []model.Edge{edge(1, 0, 0, 1, math.MinInt32)}},
		{N: 9, Vertices: lives(3), Edges: lives(1), L: []model.Edge{edge(2, 0, 0, 1, math.MaxInt32)}},
		{N: 4, Vertices: lives(4), Edges: lives(2), L: []model.Edge{edge(0, 0, 2, 1, 4), edge(1, 2, 3, 3, 4)}},
		{N: 2, Vertices: lives(1), Edges: lives(2), L: []model.Edge{edge(0, 2, 0, 0, 4), edge(0, 3, 0, 1, 4)}},
		{N: 3, Vertices: lives(2), Edges: lives(3), L: []model.Edge{edge(0, 2, 1, 5, 7), edge(0, 4, 1, 1, 6), edge(0, 0, 1, 3, 5)}},
		{N: 4, Vertices: []arena.Place{free(3), live(2), free(0), live(9)}, Edges: []arena.Place{free(0), free(1), worn(), live(8)}, L: []model.Edge{{}, {}, {}, edge(3, 6, 1, 7, 1)}},
		triangle(),
	} {
		if !checkOf(t, m) {
			t.Fatalf("%v: it may not be", m)
		}
	}
}

// LO1: models that may not be.
func TestOfWrong(t *testing.T) {
	for what, m := range map[string]model.Model{
		"nothing at all":                       {},
		"a place too many":                     {N: 1, Vertices: lives(2)},
		"an edge's place too many":             {N: 1, Edges: []arena.Place{free(1), free(1)}, L: make([]model.Edge, 2)},
		"a last place that was never given":    {N: 2, Vertices: []arena.Place{live(1), free(0)}},
		"an edge's place that was never given": {N: 2, Edges: []arena.Place{free(0)}, L: make([]model.Edge, 1)},
		"a vertex that is nothing":             {N: 2, Vertices: []arena.Place{{Age: 1, Is: 3}}},
		"an edge that is nothing":              {N: 2, Edges: []arena.Place{{Age: 1, Is: -1}}, L: make([]model.Edge, 1)},
		"a vertex of no age":                   {N: 2, Vertices: []arena.Place{live(0)}},
		"fewer edges told":                     {N: 2, Edges: []arena.Place{free(1)}},
		"more edges told":                      {N: 2, L: make([]model.Edge, 1)},
		"a free edge's weight":                 {N: 2, Edges: []arena.Place{free(1)}, L: []model.Edge{{W: 1}}},
		"no vertex":                            {N: 2, Edges: lives(1), L: []model.Edge{edge(0, 1, 0, 0, 0)}},
		"a free vertex":                        {N: 2, Vertices: []arena.Place{free(1)}, Edges: lives(1), L: []model.Edge{edge(0, 1, 0, 0, 0)}},
		"a dart of another vertex behind":      {N: 2, Vertices: lives(2), Edges: lives(1), L: []model.Edge{edge(0, 1, 1, 0, 0)}},
		"one dart behind two":                  {N: 2, Vertices: lives(1), Edges: lives(1), L: []model.Edge{edge(0, 1, 0, 1, 0)}},
		"two cycles":                           {N: 2, Vertices: lives(1), Edges: lives(1), L: []model.Edge{edge(0, 0, 0, 1, 0)}},
		"loops that cross":                     {N: 2, Vertices: lives(1), Edges: lives(2), L: []model.Edge{edge(0, 2, 0, 3, 0), edge(0, 1, 0, 0, 0)}},
	} {
		checkNoOf(t, what, m)
	}
	for _, n := range wrongSizes {
		for _, m := range []model.Model{{N: n}, {N: n, Vertices: lives(1)}} {
			checkNoOf(t, fmt.Sprint("a room of ", n), m)
		}
		m := triangle()
		m.N = n
		checkNoOf(t, fmt.Sprint("a triangle in a room of ", n), m)
	}
}

// LO1: all that can be told of two edges at two vertices, right and wrong.
func TestOfEach(t *testing.T) {
	m := model.Model{N: 3, Vertices: lives(2), Edges: lives(2), L: make([]model.Edge, 2)}
	right := 0
	for at := range 1 << 12 {
		for d := range 4 {
			m.L[d/2].From[d%2], m.L[d/2].Next[d%2] = uint32(at>>d&1), uint32(at>>(4+2*d)&3)
		}
		if checkOf(t, m) {
			right++
		}
	}
	if right == 0 {
		t.Fatal("no model may be")
	}
}

// LO1: models that may be, with one thing told otherwise.
func TestOfChanged(t *testing.T) {
	right, wrong := 0, 0
	for i := range 150 {
		r := rand.New(rand.NewSource(int64(i)))
		b := newBoth(t, 2+r.Intn(5))
		for range 40 {
			_, _ = b.do(b.p.chance(r))
		}
		for range 25 {
			m := b.p.model()
			change(r, &m)
			if checkOf(t, m) {
				right++
			} else {
				wrong++
			}
		}
	}
	if right < 200 || wrong < 200 {
		t.Fatalf("%d right, %d wrong", right, wrong)
	}
}

// change tells one thing of a model otherwise.
func change(r *rand.Rand, m *model.Model) {
	place := arena.Place{Age: uint32(r.Intn(3)), Is: arena.State(r.Intn(2))}
	switch k := r.Intn(6); {
	case k == 0:
		m.N = r.Intn(m.N + 3)
	case k == 1 && len(m.Vertices) > 0:
		m.Vertices[r.Intn(len(m.Vertices))] = place
	case k == 2 && len(m.Edges) > 0:
		m.Edges[r.Intn(len(m.Edges))] = place
	case k == 3 && len(m.L) > 0:
		m.L[r.Intn(len(m.L))].From[r.Intn(2)] = uint32(r.Intn(m.N))
	case k == 4 && len(m.L) > 0:
		m.L[r.Intn(len(m.L))].W = int32(r.Uint32())
	case len(m.L) > 1:
		a, b := &m.L[r.Intn(len(m.L))].Next[r.Intn(2)], &m.L[r.Intn(len(m.L))].Next[r.Intn(2)]
		*a, *b = *b, *a
	}
}

// checkNothing fails unless a state has neither a model nor bytes.
func checkNothing(t *testing.T, what string, s *load.State, want api.Errno) {
	t.Helper()
	m, err := s.Model()
	checkErr(t, what+": Model", err, want)
	b, err := s.Dump()
	checkErr(t, what+": Dump", err, want)
	if !same(m, model.Model{}) || len(b) > 0 {
		t.Fatalf("%s: %v and %v beside an error", what, m, b)
	}
}

// LO2: a State that is nil, or one of whose parts is, whatever the others are.
func TestNil(t *testing.T) {
	checkNothing(t, "nil", nil, api.ErrArg)
	checkNothing(t, "of nothing", &load.State{}, api.ErrArg)
	for _, n := range []int{1, 5} {
		fits := of(t, triangle()).s
		other, err := load.New(n)
		checkErr(t, "New", err, 0)
		for _, s := range []load.State{
			{Edges: fits.Edges, Map: fits.Map},
			{Vertices: fits.Vertices, Map: fits.Map},
			{Vertices: fits.Vertices, Edges: fits.Edges},
			{Vertices: fits.Vertices},
			{Edges: fits.Edges},
			{Map: fits.Map},
			{Edges: other.Edges, Map: fits.Map},
			{Vertices: other.Vertices, Map: fits.Map},
			{Vertices: other.Vertices, Edges: fits.Edges},
		} {
			checkNothing(t, fmt.Sprint(s), &s, api.ErrArg)
		}
	}
}

// odd does something with a state, in one part alone.
type odd struct {
	what string
	do   func(s *load.State) error
}

// oddities are all of them that leave the triangle's parts not fitting.
func oddities() []odd {
	drop := func(a *arena.Arena, at int) error {
		h, err := a.Handle(at)
		if err != nil {
			return err
		}
		return a.Drop(h)
	}
	add := func(a *arena.Arena) error {
		_, err := a.Add()
		return err
	}
	return []odd{
		{"a vertex dropped in the arena", func(s *load.State) error { return drop(s.Vertices, 4) }},
		{"a vertex with darts dropped in the arena", func(s *load.State) error { return drop(s.Vertices, 0) }},
		{"a vertex worn in the arena", func(s *load.State) error { return drop(s.Vertices, 3) }},
		{"a vertex dropped in the map", func(s *load.State) error { return s.Map.DropVertex(4) }},
		{"a worn vertex added in the map", func(s *load.State) error { return s.Map.AddVertex(1) }},
		{"an edge dropped in the arena", func(s *load.State) error { return drop(s.Edges, 1) }},
		{"the last edge dropped in the arena", func(s *load.State) error { return drop(s.Edges, 3) }},
		{"an edge dropped in the map", func(s *load.State) error { return s.Map.Part(1) }},
		{"an edge added in the arena", func(s *load.State) error { return add(s.Edges) }},
		{"an edge added in the map", func(s *load.State) error { return s.Map.Join(2, alone(4), alone(4), 1) }},
		{"an edge added in the map, where none was given", func(s *load.State) error { return s.Map.Join(4, alone(4), alone(4), 1) }},
	}
}

// LO2: parts that do not fit.
func TestPartsThatDoNotFit(t *testing.T) {
	for _, c := range oddities() {
		s := of(t, triangle()).s
		checkErr(t, c.what, c.do(s), 0)
		checkNothing(t, c.what, s, api.ErrLoad)
	}
}

// LO2: as many, but others.
func TestAsManyButOthers(t *testing.T) {
	s := of(t, triangle()).s
	checkErr(t, "Part", s.Map.Part(1), 0)
	checkErr(t, "Join", s.Map.Join(2, alone(4), alone(4), 1), 0)
	checkNothing(t, "another edge", s, api.ErrLoad)

	s = of(t, triangle()).s
	checkErr(t, "Part", s.Map.Part(3), 0)
	checkErr(t, "Join", s.Map.Join(4, alone(4), alone(4), 1), 0)
	checkNothing(t, "an edge where none was given", s, api.ErrLoad)

	s = of(t, triangle()).s
	checkErr(t, "DropVertex", s.Map.DropVertex(4), 0)
	checkErr(t, "AddVertex", s.Map.AddVertex(1), 0)
	checkNothing(t, "another vertex", s, api.ErrLoad)

	first, other := newBoth(t, 4), newBoth(t, 4)
	for _, b := range []both{first, other} {
		for range 3 {
			_, err := b.do(step{kind: "add"})
			checkErr(t, "add", err, 0)
		}
	}
	_, err := first.do(step{kind: "drop", at: 0})
	checkErr(t, "drop", err, 0)
	_, err = other.do(step{kind: "drop", at: 2})
	checkErr(t, "drop", err, 0)
	checkNothing(t, "others' vertices", &load.State{Vertices: first.s.Vertices, Edges: first.s.Edges, Map: other.s.Map}, api.ErrLoad)
	checkNothing(t, "others' vertices", &load.State{Vertices: other.s.Vertices, Edges: first.s.Edges, Map: first.s.Map}, api.ErrLoad)
	first.p.checkTold(t, &load.State{Vertices: first.s.Vertices, Edges: other.s.Edges, Map: first.s.Map})
}

// LO2: parts of other sizes do not fit, even if nothing was ever given of them.
func TestPartsOfOtherSizes(t *testing.T) {
	sizes := []int{1, 2, 3, 64, 65, most - 1, most}
	for _, a := range sizes {
		for _, b := range sizes {
			vertices, err := arena.New(a)
			checkErr(t, "arena.New", err, 0)
			edges, err := arena.New(b)
			checkErr(t, "arena.New", err, 0)
			for _, n := range sizes {
				m, err := core.New(n)
				checkErr(t, "core.New", err, 0)
				s := &load.State{Vertices: vertices, Edges: edges, Map: m}
				if a != n || b != n {
					checkNothing(t, fmt.Sprint(a, b, n), s, api.ErrLoad)
					continue
				}
				got, err := s.Model()
				checkErr(t, "Model", err, 0)
				if !same(got, model.Model{N: n}) {
					t.Fatalf("Model: %v, want one of %d places", got, n)
				}
			}
		}
	}
	s := of(t, triangle()).s
	for _, n := range []int{4, 6} {
		m := triangle()
		m.Vertices, m.N = m.Vertices[:4], n
		other := of(t, m).s
		checkNothing(t, "other edges' places", &load.State{Vertices: s.Vertices, Edges: other.Edges, Map: s.Map}, api.ErrLoad)
		checkNothing(t, "another map", &load.State{Vertices: s.Vertices, Edges: s.Edges, Map: other.Map}, api.ErrLoad)
	}
}

// LO2: parts that fit again are a state again, and the places' ages tell of it.
func TestFitsAgain(t *testing.T) {
	b := of(t, triangle())
	checkErr(t, "DropVertex", b.s.Map.DropVertex(4), 0)
	checkNothing(t, "a vertex less", b.s, api.ErrLoad)
	checkErr(t, "AddVertex", b.s.Map.AddVertex(4), 0)
	b.p.checkState(t, b.s)
	h, err := b.s.Edges.Add()
	checkErr(t, "Add", err, 0)
	checkNothing(t, "an edge more", b.s, api.ErrLoad)
	checkErr(t, "Drop", b.s.Edges.Drop(h), 0)
	b.p.edges[2].Age = 8
	b.p.checkState(t, b.s)
}

// LO2: one arena may be both.
func TestOneArena(t *testing.T) {
	b := newBoth(t, 3)
	s := &load.State{Vertices: b.s.Vertices, Edges: b.s.Vertices, Map: b.s.Map}
	_, err := s.Vertices.Add()
	checkErr(t, "Add", err, 0)
	checkErr(t, "AddVertex", s.Map.AddVertex(0), 0)
	checkNothing(t, "no edge", s, api.ErrLoad)
	checkErr(t, "Join", s.Map.Join(0, alone(0), alone(0), 6), 0)
	want := model.Model{N: 3, Vertices: lives(1), Edges: lives(1), L: []model.Edge{edge(0, 1, 0, 0, 6)}}
	plainOf(want).checkTold(t, s)
}
