package model_test

import (
	"math"
	"math/rand"
	"slices"
	"testing"

	"plait/arena"
	"plait/model"
	"plait/sphere"
	"plait/turn"
)

// far are numbers that are no vertex and no dart of small models; some of them
// are small ones, doubled or cut to fewer bits.
var far = []uint32{9, 100, 255, 256, 1 << 16, most - 1, most, 2 * most, 2*most + 1, 1<<31 - 1, 1 << 31, 1<<31 + 1, 1<<31 + 2, math.MaxUint32 - 1, math.MaxUint32}

// wrongMany are numbers of places that may not be; cut to 32 bits some may.
var wrongMany = []int{0, -1, -2, -most, math.MinInt32, -1 << 32, 1 - 1<<32, math.MinInt, math.MinInt + 4, most + 1, most + 2, 2 * most, math.MaxInt32, math.MaxUint32, 1 << 32, 1<<32 + 1, 1<<32 + 4, 1<<40 + most, math.MaxInt}

// wrongStates are what no place is; some of them are 0, 1 or 2, cut to fewer
// bits.
var wrongStates = []arena.State{-1, -2, -255, 3, 4, 255, 256, 257, 258, 1 << 32, 1<<32 + 1, math.MinInt, math.MinInt + 1, math.MaxInt}

// edge is an edge of which each dart's vertex, and the dart behind it, is told.
func edge(from0, next0, from1, next1 uint32, w int32) model.Edge {
	return model.Edge{From: [2]uint32{from0, from1}, Next: [2]uint32{next0, next1}, W: w}
}

// triangle is one of weights 1, 2, 3, of which the place 2 of the edges is free
// now, and the vertices' place 1 worn.
func triangle() model.Model {
	return model.Model{
		N:        5,
		Vertices: []arena.Place{live(1), worn(), live(258), live(lastAge)},
		Edges:    []arena.Place{live(3), live(1), free(7), live(2)},
		L:        []model.Edge{edge(0, 7, 2, 2, 1), edge(2, 1, 3, 6, 2), {}, edge(3, 3, 0, 0, 3)},
	}
}

// The chapter's example, and what else can be seen of it.
func TestExample(t *testing.T) {
	m := model.Model{N: 1}
	checkRight(t, m, nil, []byte{0, 0, 0, 1, 0, 0, 0, 0, 0, 0, 0, 0})
	checkModel(t, m)
	checkRight(t, model.Model{N: 1, Vertices: []arena.Place{}, Edges: []arena.Place{}, L: []model.Edge{}}, [][]int{}, []byte{0, 0, 0, 1, 0, 0, 0, 0, 0, 0, 0, 0})
}

// MD1: models and what stands round their vertices, written out, so that the
// words above are held to something.
func TestWrittenOut(t *testing.T) {
	for _, c := range []struct {
		what string
		m    model.Model
		rows [][]int
	}{
		{"a vertex", model.Model{N: 1, Vertices: lives(1)}, [][]int{nil}},
		{"vertices that were", model.Model{N: 3, Vertices: []arena.Place{free(0), worn(), free(2)}}, [][]int{nil, nil, nil}},
		{"edges that were", model.Model{N: 2, Edges: []arena.Place{free(0), worn()}, L: make([]model.Edge, 2)}, nil},
		{"a loop", model.Model{N: 1, Vertices: lives(1), Edges: lives(1), L: []model.Edge{edge(0, 1, 0, 0, -9)}}, [][]int{{0, 1}}},
		{"an edge", model.Model{N: 2, Vertices: lives(2), Edges: lives(1), L: []model.Edge{edge(1, 0, 0, 1, 0)}}, [][]int{{1}, {0}}},
		{"an edge, and a vertex", model.Model{N: 9, Vertices: lives(3), Edges: lives(1), L: []model.Edge{edge(2, 0, 0, 1, 0)}}, [][]int{{1}, nil, {0}}},
		{"two parts", model.Model{N: 4, Vertices: lives(4), Edges: lives(2), L: []model.Edge{edge(0, 0, 2, 1, 4), edge(1, 2, 3, 3, 4)}}, [][]int{{0}, {2}, {1}, {3}}},
		{"two loops, one within", model.Model{N: 2, Vertices: lives(1), Edges: lives(2), L: []model.Edge{edge(0, 2, 0, 0, 4), edge(0, 3, 0, 1, 4)}}, [][]int{{0, 2, 3, 1}}},
		{"three edges side by side", model.Model{N: 3, Vertices: lives(2), Edges: lives(3), L: []model.Edge{edge(0, 2, 1, 5, 0), edge(0, 4, 1, 1, 0), edge(0, 0, 1, 3, 0)}}, [][]int{{0, 2, 4}, {1, 5, 3}}},
		{"a triangle", triangle(), [][]int{{0, 7}, nil, {1, 2}, {3, 6}}},
	} {
		t.Run(c.what, func(t *testing.T) {
			if !mayBe(c.m) {
				t.Fatal("the words: it may not be")
			}
			checkRight(t, c.m, c.rows, wantBytes(c.m))
		})
	}
}

// MD1: models that may not be, each for one reason alone, written out.
func TestWrongWrittenOut(t *testing.T) {
	for _, c := range []struct {
		what string
		m    model.Model
	}{
		{"nothing at all", model.Model{}},
		{"a place too many", model.Model{N: 1, Vertices: lives(2)}},
		{"an edge's place too many", model.Model{N: 1, Edges: []arena.Place{free(1), free(1)}, L: make([]model.Edge, 2)}},
		{"a last place that was never given", model.Model{N: 2, Vertices: []arena.Place{live(1), free(0)}}},
		{"an edge's last place that was never given", model.Model{N: 2, Edges: []arena.Place{free(0)}, L: make([]model.Edge, 1)}},
		{"fewer edges told", model.Model{N: 2, Edges: []arena.Place{free(1)}}},
		{"more edges told", model.Model{N: 2, L: make([]model.Edge, 1)}},
		{"a free edge's weight", model.Model{N: 2, Edges: []arena.Place{free(1)}, L: []model.Edge{{W: 1}}}},
		{"a worn edge's weight", model.Model{N: 2, Edges: []arena.Place{worn()}, L: []model.Edge{{W: 1}}}},
		{"no vertex", model.Model{N: 2, Edges: lives(1), L: []model.Edge{edge(0, 1, 0, 0, 0)}}},
		{"a free vertex", model.Model{N: 2, Vertices: []arena.Place{free(1)}, Edges: lives(1), L: []model.Edge{edge(0, 1, 0, 0, 0)}}},
		{"a worn vertex", model.Model{N: 2, Vertices: []arena.Place{worn()}, Edges: lives(1), L: []model.Edge{edge(0, 1, 0, 0, 0)}}},
		{"a free edge's dart behind", model.Model{N: 2, Vertices: lives(1), Edges: []arena.Place{free(1), live(1)}, L: []model.Edge{{}, edge(0, 3, 0, 1, 0)}}},
		{"a dart of another vertex behind", model.Model{N: 2, Vertices: lives(2), Edges: lives(1), L: []model.Edge{edge(0, 1, 1, 0, 0)}}},
		{"one dart behind two", model.Model{N: 2, Vertices: lives(1), Edges: lives(1), L: []model.Edge{edge(0, 1, 0, 1, 0)}}},
		{"a dart behind none", model.Model{N: 2, Vertices: lives(1), Edges: lives(1), L: []model.Edge{edge(0, 0, 0, 0, 0)}}},
		{"two cycles", model.Model{N: 2, Vertices: lives(1), Edges: lives(1), L: []model.Edge{edge(0, 0, 0, 1, 0)}}},
		{"two cycles, of loops", model.Model{N: 2, Vertices: lives(1), Edges: lives(2), L: []model.Edge{edge(0, 1, 0, 0, 0), edge(0, 3, 0, 2, 0)}}},
		{"loops that cross", model.Model{N: 2, Vertices: lives(1), Edges: lives(2), L: []model.Edge{edge(0, 2, 0, 3, 0), edge(0, 1, 0, 0, 0)}}},
		{"three edges, twisted", model.Model{N: 3, Vertices: lives(2), Edges: lives(3), L: []model.Edge{edge(0, 2, 1, 3, 0), edge(0, 4, 1, 5, 0), edge(0, 0, 1, 1, 0)}}},
	} {
		t.Run(c.what, func(t *testing.T) {
			if mayBe(c.m) {
				t.Fatal("the words: it may be")
			}
			checkWrong(t, c.m)
		})
	}
}

// MD1: one part that crosses itself is not made up for by others that don't.
func TestOnePartCrosses(t *testing.T) {
	m := model.Model{N: 9, Vertices: lives(6), Edges: lives(3), L: []model.Edge{edge(2, 0, 4, 1, 0), edge(3, 4, 3, 5, 0), edge(3, 3, 3, 2, 0)}}
	checkWrong(t, m)
	m.L[1], m.L[2] = edge(3, 3, 3, 4, 0), edge(3, 5, 3, 2, 0)
	checkRight(t, m, [][]int{nil, nil, {0}, {2, 3, 4, 5}, {1}, nil}, wantBytes(m))
}

// eachList goes over all lists of n numbers below top. The list is one and the
// same each time.
func eachList(n, top int) func(yield func([]int) bool) {
	return func(yield func([]int) bool) {
		l := make([]int, n)
		for {
			if !yield(l) {
				return
			}
			i := 0
			for ; i < n && l[i] == top-1; i++ {
				l[i] = 0
			}
			if i == n {
				return
			}
			l[i]++
		}
	}
}

// tell writes which vertex each dart has, and which dart is behind it.
func tell(m model.Model, from, next []int) {
	for d := range from {
		m.L[d/2].From[d%2], m.L[d/2].Next[d%2] = uint32(from[d]), uint32(next[d])
	}
}

// MD1 to MD3: all that can be told of up to two edges, right and wrong.
func TestEachEdge(t *testing.T) {
	for _, sizes := range [][2]int{{0, 1}, {1, 1}, {2, 1}, {3, 1}, {1, 2}, {2, 2}} {
		vertices, edges := sizes[0], sizes[1]
		m := model.Model{N: 3, Vertices: lives(vertices), Edges: lives(edges), L: make([]model.Edge, edges)}
		right := 0
		for from := range eachList(2*edges, vertices+1) {
			for next := range eachList(2*edges, 2*edges+1) {
				tell(m, from, next)
				if checkModel(t, m) {
					right++
				}
			}
		}
		// A loop, alone; or an edge between any two vertices.
		if edges == 1 && right != vertices*vertices {
			t.Fatalf("%d models of %d vertices may be", right, vertices)
		}
	}
}

// MD1 to MD3: all orders of three edges' darts, at two vertices in all ways.
func TestEachOrder(t *testing.T) {
	m := model.Model{N: 3, Vertices: lives(2), Edges: lives(3), L: make([]model.Edge, 3)}
	right := 0
	for from := range eachList(6, 2) {
		eachOrder(make([]int, 0, 6), 6, func(next []int) {
			tell(m, from, next)
			if checkModel(t, m) {
				right++
			}
		})
	}
	if right == 0 {
		t.Fatal("no model may be")
	}
}

// eachOrder goes over all orders of the numbers below n that begin so.
func eachOrder(begun []int, n int, see func([]int)) {
	if len(begun) == n {
		see(begun)
		return
	}
	for d := range n {
		if !slices.Contains(begun, d) {
			eachOrder(append(begun, d), n, see)
		}
	}
}

// MD1 to MD3: all places of either kind, up to two, of few ages, in rooms of few
// places.
func TestEachPlace(t *testing.T) {
	var kinds []arena.Place
	for _, age := range []uint32{0, 1, 2, lastAge - 1, lastAge} {
		for is := range arena.State(4) {
			kinds = append(kinds, arena.Place{Age: age, Is: is})
		}
	}
	for many := range 3 {
		for l := range eachList(many, len(kinds)) {
			places := make([]arena.Place, many)
			for i, k := range l {
				places[i] = kinds[k]
			}
			for n := range 4 {
				checkModel(t, model.Model{N: n, Vertices: places})
				// Loops, each round a vertex of its own.
				loops := make([]model.Edge, many)
				for e := range loops {
					if isLive(places, e) {
						at, first := uint32(e), uint32(2*e)
						loops[e] = edge(at, first+1, at, first, 0)
					}
				}
				checkModel(t, model.Model{N: n, Vertices: places, Edges: places, L: loops})
				checkModel(t, model.Model{N: n, Vertices: lives(min(n, many)), Edges: places, L: loops})
			}
		}
	}
}

// MD1: rooms, and what places are, that may not be.
func TestWrongNumbers(t *testing.T) {
	for _, n := range wrongMany {
		for _, m := range []model.Model{{}, {Vertices: lives(1)}, {Edges: []arena.Place{free(1)}, L: make([]model.Edge, 1)}, triangle()} {
			m.N = n
			checkWrong(t, m)
		}
	}
	for _, is := range wrongStates {
		for _, age := range []uint32{0, 1, lastAge} {
			odd := []arena.Place{{Age: age, Is: is}, live(1)}
			checkWrong(t, model.Model{N: 3, Vertices: odd})
			checkWrong(t, model.Model{N: 3, Edges: odd[:1], L: make([]model.Edge, 1)})
			checkWrong(t, model.Model{N: 3, Vertices: odd, Edges: lives(1), L: []model.Edge{edge(0, 1, 0, 0, 0)}})
		}
	}
}

// MD1: L is as long as Edges, whatever there is.
func TestWrongLength(t *testing.T) {
	m := triangle()
	for k := range m.L {
		few := clone(m)
		few.L = few.L[:k]
		checkWrong(t, few)
	}
	for _, more := range []model.Edge{{}, edge(0, 8, 0, 9, 0)} {
		long := clone(m)
		long.L = append(long.L, more)
		checkWrong(t, long)
	}
	none := clone(m)
	none.Edges = nil
	checkWrong(t, none)
}

// MD1: of an edge that is not live nothing is told, not any one thing.
func TestNothingOfOthers(t *testing.T) {
	for _, place := range []arena.Place{free(0), free(7), worn()} {
		m := triangle()
		m.Edges[2] = place
		if !checkModel(t, m) {
			t.Fatalf("with %v it may not be", place)
		}
		for _, odd := range []model.Edge{edge(1, 0, 0, 0, 0), edge(0, 1, 0, 0, 0), edge(0, 0, 1, 0, 0), edge(0, 0, 0, 1, 0), edge(0, 0, 0, 0, 1), edge(0, 0, 0, 0, math.MinInt32), edge(0, 5, 0, 4, 0)} {
			m.L[2] = odd
			checkWrong(t, m)
		}
	}
}

// MD1: vertices and darts that are none, in each place.
func TestFar(t *testing.T) {
	m := triangle()
	for _, x := range far {
		for _, e := range []int{0, 1, 3} {
			for side := range 2 {
				was := m.L[e]
				m.L[e].From[side] = x
				checkWrong(t, m)
				m.L[e] = was
				m.L[e].Next[side] = x
				checkWrong(t, m)
				m.L[e] = was
			}
		}
	}
	checkModel(t, m)
}

// MD1: a weight may be any, and so may the ages of live places.
func TestWeightsAndAges(t *testing.T) {
	m := triangle()
	for _, w := range []int32{0, 1, -1, 255, 256, -256, 1 << 16, math.MaxInt32, math.MinInt32, math.MinInt32 + 1} {
		for _, age := range []uint32{1, 2, 255, 256, 1 << 24, 1 << 31, lastAge - 1, lastAge} {
			m.L[1].W, m.Edges[1].Age, m.Vertices[0].Age = w, age, age
			if !checkModel(t, m) {
				t.Fatalf("a weight of %d and an age of %d: it may not be", w, age)
			}
		}
	}
}

// grown is a chance model that may be, and the turns that it tells of. Some
// vertices and edges come, and some edges go again.
func grown(t *testing.T, r *rand.Rand, n int) (model.Model, *turn.Turns) {
	t.Helper()
	x, err := turn.New(n, n)
	checkErr(t, "turn.New", err, 0)
	m := model.Model{N: n, Vertices: somePlaces(r, n)}
	for range 3 * n {
		if r.Intn(4) == 0 {
			_ = x.Lift(r.Intn(n))
			continue
		}
		a, b, ok := someCorners(t, r, m, x)
		if !ok {
			continue
		}
		is, err := sphere.Legal(x, a, b)
		checkErr(t, "Legal", err, 0)
		if is {
			_ = x.Lay(r.Intn(n), a, b)
		}
	}
	fill(t, r, &m, x)
	return m, x
}

// somePlaces are chance places, up to n.
func somePlaces(r *rand.Rand, n int) []arena.Place {
	l := make([]arena.Place, r.Intn(n+1))
	for i := range l {
		switch l[i] = live(1 + uint32(r.Intn(3))); r.Intn(8) {
		case 0:
			l[i] = worn()
		case 1:
			l[i] = free(1 + uint32(r.Intn(3)))
		}
	}
	return l
}

// someCorners are two chance corners of live vertices, if there are any.
func someCorners(t *testing.T, r *rand.Rand, m model.Model, x *turn.Turns) (a, b turn.Corner, ok bool) {
	t.Helper()
	for _, c := range []*turn.Corner{&a, &b} {
		if len(m.Vertices) == 0 {
			return a, b, false
		}
		c.Vertex, c.Behind = r.Intn(len(m.Vertices)), turn.None
		if !isLive(m.Vertices, c.Vertex) {
			return a, b, false
		}
		row, err := x.Round(c.Vertex)
		checkErr(t, "turn.Round", err, 0)
		if len(row) > 0 {
			c.Behind = row[r.Intn(len(row))]
		}
	}
	return a, b, true
}

// fill tells of the edges that are laid.
func fill(t *testing.T, r *rand.Rand, m *model.Model, x *turn.Turns) {
	t.Helper()
	_, edges := x.Sizes()
	for edges > 0 && !x.Has(edges-1) {
		edges--
	}
	for e := range edges {
		if !x.Has(e) {
			m.Edges, m.L = append(m.Edges, free(uint32(r.Intn(3)))), append(m.L, model.Edge{})
			continue
		}
		told := model.Edge{W: int32(r.Uint32())}
		for side := range 2 {
			from, err := x.Origin(2*e + side)
			checkErr(t, "Origin", err, 0)
			next, err := x.Next(2*e + side)
			checkErr(t, "Next", err, 0)
			told.From[side], told.Next[side] = uint32(from), uint32(next)
		}
		m.Edges, m.L = append(m.Edges, live(1+uint32(r.Intn(3)))), append(m.L, told)
	}
}

// MD1 to MD3: models of turns that lie on spheres may be, and stand round as
// these do.
func TestGrown(t *testing.T) {
	for i := range 300 {
		r := rand.New(rand.NewSource(int64(i)))
		m, x := grown(t, r, 1+r.Intn(12))
		if !checkModel(t, m) {
			t.Fatalf("%v: it may not be", m)
		}
		rows, err := model.Round(m)
		checkErr(t, "Round", err, 0)
		for v, got := range rows {
			want, err := x.Round(v)
			checkErr(t, "turn.Round", err, 0)
			if !slices.Equal(got, want) {
				t.Fatalf("Round of %d: %v, want %v", v, got, want)
			}
		}
	}
}

// MD1: models that may be, with one or two things told otherwise.
func TestChanged(t *testing.T) {
	right, wrong := 0, 0
	for i := range 400 {
		r := rand.New(rand.NewSource(int64(i)))
		m, _ := grown(t, r, 2+r.Intn(7))
		for range 25 {
			x := clone(m)
			for range 1 + r.Intn(2) {
				change(r, &x)
			}
			if checkModel(t, x) {
				right++
			} else {
				wrong++
			}
		}
	}
	if right < 500 || wrong < 500 {
		t.Fatalf("%d right, %d wrong", right, wrong)
	}
}

// change tells one thing of a model otherwise.
func change(r *rand.Rand, m *model.Model) {
	near := func(n int) uint32 { return uint32(r.Intn(n + 1)) }
	switch k := r.Intn(6); {
	case k == 0:
		m.N = r.Intn(m.N + 2)
	case k == 1 && len(m.Vertices) > 0:
		m.Vertices[r.Intn(len(m.Vertices))] = arena.Place{Age: near(2), Is: arena.State(r.Intn(3))}
	case k == 2 && len(m.Edges) > 0:
		m.Edges[r.Intn(len(m.Edges))] = arena.Place{Age: near(2), Is: arena.State(r.Intn(3))}
	case k == 3 && len(m.L) > 0:
		m.L[r.Intn(len(m.L))].From[r.Intn(2)] = near(len(m.Vertices))
	case k == 4 && len(m.L) > 0:
		m.L[r.Intn(len(m.L))].Next[r.Intn(2)] = near(2 * len(m.L))
	case len(m.L) > 1:
		// Two darts change what is behind them: still no two are one.
		a, b := &m.L[r.Intn(len(m.L))].Next[r.Intn(2)], &m.L[r.Intn(len(m.L))].Next[r.Intn(2)]
		*a, *b = *b, *a
	}
}

// What is handed in is neither changed nor kept; what is answered is new memory,
// spare room too.

// roomy is a list with spare room that is written over.
func roomy[T any](l []T, spare T) []T {
	return append(slices.Clone(l), spare, spare, spare)[:len(l)]
}

func TestNothingChanged(t *testing.T) {
	want := triangle()
	odd := model.Edge{W: 77}
	m := model.Model{N: want.N, Vertices: roomy(want.Vertices, live(77)), Edges: roomy(want.Edges, live(77)), L: roomy(want.L, odd)}
	wrong := clone(want)
	wrong.L[0].Next[0] = 0
	for range 3 {
		checkModel(t, m)
		checkModel(t, wrong)
	}
	if !same(m, want) {
		t.Fatalf("what was handed in: %v", m)
	}
	if k := len(m.Vertices); m.Vertices[:k+3][k] != live(77) || m.Vertices[:k+3][k+2] != live(77) {
		t.Fatal("the vertices' spare room was changed")
	}
	if k := len(m.L); m.Edges[:k+3][k] != live(77) || m.L[:k+3][k] != odd || m.L[:k+3][k+2] != odd {
		t.Fatal("the edges' spare room was changed")
	}
}

// spoil writes over a list and its spare room.
func spoil[T any](l []T, with T) {
	for i := range l[:cap(l)] {
		l[:cap(l)][i] = with
	}
}

func TestRoundIsNew(t *testing.T) {
	m := triangle()
	m.Vertices = append(m.Vertices, live(1))
	want := wantRound(m)
	one, err := model.Round(m)
	checkErr(t, "Round", err, 0)
	other, err := model.Round(m)
	checkErr(t, "Round", err, 0)
	for v := range one {
		spoil(one[v], -9)
		if !slices.EqualFunc(one[v+1:], want[v+1:], slices.Equal) {
			t.Fatalf("the lists behind %d were changed: %v", v, one)
		}
	}
	spoil(one, []int{-9})
	if !slices.EqualFunc(other, want, slices.Equal) {
		t.Fatalf("another answer: %v, want %v", other, want)
	}
	checkModel(t, m)
}
