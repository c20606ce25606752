package kin_test

import (
	"errors"
	"math"
	"math/rand"
	"slices"
	"testing"

	"plait/api"
	"plait/face"
	"plait/kin"
	"plait/sphere"
	"plait/turn"
)

// most is how many vertices, and how many edges, there are at most.
const most = 1 << 20

// none is no dart, as the document has it.
const none = -1

// far are numbers that are no vertex and no edge; twice some of them is a small
// number, cut to 64 bits, or to 32.
var far = []int{-1, -2, -3, math.MinInt, math.MinInt + 1, math.MinInt32, -1 << 32, -1 << 62, most, most + 1, 2 * most, math.MaxInt32, 1 << 31, math.MaxUint32, 1 << 32, 1<<32 + 1, 1 << 62, 1<<62 + 1, math.MaxInt - 1, math.MaxInt}

// checkErr fails unless err is the number want (0: nil), as errors.As finds it.
func checkErr(t *testing.T, what string, err error, want api.Errno) {
	t.Helper()
	if want == 0 {
		if err != nil {
			t.Fatalf("%s: error %v, want none", what, err)
		}
		return
	}
	var e api.Errno
	if !errors.As(err, &e) || e != want {
		t.Fatalf("%s: error %v, want %v", what, err, want)
	}
}

// checkList fails unless these are just the numbers that are wanted.
func checkList(t *testing.T, what string, got, want []int) {
	t.Helper()
	if !slices.Equal(got, want) {
		t.Fatalf("%s: %v, want %v", what, got, want)
	}
}

// checkRoad fails unless Road answers just that.
func checkRoad(t *testing.T, x *turn.Turns, a, b int, want []int, wantErr api.Errno) {
	t.Helper()
	got, err := kin.Road(x, a, b)
	checkErr(t, "Road", err, wantErr)
	if !slices.Equal(got, want) {
		t.Fatalf("Road(%d, %d): %v, want %v", a, b, got, want)
	}
}

// checkBridge fails unless Bridge answers just that.
func checkBridge(t *testing.T, x *turn.Turns, e int, want bool, wantErr api.Errno) {
	t.Helper()
	got, err := kin.Bridge(x, e)
	checkErr(t, "Bridge", err, wantErr)
	if got != want {
		t.Fatalf("Bridge(%d): %v, want %v", e, got, want)
	}
}

func made(t *testing.T, vertices, edges int) *turn.Turns {
	t.Helper()
	x, err := turn.New(vertices, edges)
	checkErr(t, "New", err, 0)
	return x
}

func loaded(t *testing.T, vertices, edges int, round [][]int) *turn.Turns {
	t.Helper()
	x, err := turn.Load(vertices, edges, round)
	checkErr(t, "Load", err, 0)
	return x
}

// behind is the corner behind a dart, and alone that of a vertex without any.
func behind(v, d int) turn.Corner { return turn.Corner{Vertex: v, Behind: d} }
func alone(v int) turn.Corner     { return turn.Corner{Vertex: v, Behind: none} }

// upTo are the numbers below n.
func upTo(n int) []int {
	out := make([]int, n)
	for v := range out {
		out[v] = v
	}
	return out
}

// plain is a map as plain lists: of each dart the vertex where it stands, or
// none. They are gone over anew for each question.
type plain struct {
	vertices int
	at       []int
}

// readBack are the turns as plain lists.
func readBack(t *testing.T, x *turn.Turns) *plain {
	t.Helper()
	vertices, edges := x.Sizes()
	p := &plain{vertices: vertices, at: slices.Repeat([]int{none}, 2*edges)}
	for v := range vertices {
		row, err := x.Round(v)
		checkErr(t, "Round", err, 0)
		for _, d := range row {
			p.at[d] = v
		}
	}
	return p
}

// to is where a dart leads.
func (p *plain) to(d int) int {
	if d%2 == 0 {
		return p.at[d+1]
	}
	return p.at[d-1]
}

// joined tells of each vertex whether edges, but one, join it with a vertex.
func (p *plain) joined(v, without int) []bool {
	out := make([]bool, p.vertices)
	out[v] = true
	for more := true; more; {
		more = false
		for d, from := range p.at {
			if from != none && d/2 != without && out[from] && !out[p.to(d)] {
				out[p.to(d)] = true
				more = true
			}
		}
	}
	return out
}

func (p *plain) groups() []int {
	out := make([]int, p.vertices)
	for v := range out {
		out[v] = slices.Index(p.joined(v, none), true)
	}
	return out
}

// bridge tells whether an edge that is laid is one.
func (p *plain) bridge(e int) bool {
	return !p.joined(p.at[2*e], e)[p.at[2*e+1]]
}

func (p *plain) bridges() []int {
	var out []int
	for e := range len(p.at) / 2 {
		if p.at[2*e] != none && p.bridge(e) {
			out = append(out, e)
		}
	}
	return out
}

// first is the first of all roads of so many edges, all of them tried, the lesser
// darts ahead of the greater ones; false, if there is none.
func (p *plain) first(a, b, edges int) ([]int, bool) {
	if edges == 0 {
		return nil, a == b
	}
	for d, from := range p.at {
		if from != a {
			continue
		}
		if rest, ok := p.first(p.to(d), b, edges-1); ok {
			return append([]int{d}, rest...), true
		}
	}
	return nil, false
}

func (p *plain) road(a, b int) ([]int, api.Errno) {
	for _, v := range []int{a, b} {
		if v < 0 || v >= p.vertices {
			return nil, api.ErrRange
		}
	}
	if !p.joined(a, none)[b] {
		return nil, api.ErrApart
	}
	for edges := 0; ; edges++ {
		if list, ok := p.first(a, b, edges); ok {
			return list, 0
		}
	}
}

// checkTogether fails unless Groups, Bridges and Bridge are as the lists tell.
func (p *plain) checkTogether(t *testing.T, x *turn.Turns) {
	t.Helper()
	checkList(t, "Groups", kin.Groups(x), p.groups())
	checkList(t, "Bridges", kin.Bridges(x), p.bridges())
	edges := len(p.at) / 2
	for e := -2; e < edges+2; e++ {
		switch {
		case e < 0 || e >= edges:
			checkBridge(t, x, e, false, api.ErrRange)
		case p.at[2*e] == none:
			checkBridge(t, x, e, false, api.ErrStale)
		default:
			checkBridge(t, x, e, p.bridge(e), 0)
		}
	}
}

// checkAll fails unless all is as the lists tell it.
func (p *plain) checkAll(t *testing.T, x *turn.Turns) {
	t.Helper()
	p.checkTogether(t, x)
	for a := -2; a < p.vertices+2; a++ {
		for b := -2; b < p.vertices+2; b++ {
			want, wantErr := p.road(a, b)
			checkRoad(t, x, a, b, want, wantErr)
		}
	}
}

// corners are all that there are.
func corners(t *testing.T, x *turn.Turns) []turn.Corner {
	t.Helper()
	var out []turn.Corner
	vertices, _ := x.Sizes()
	for v := range vertices {
		row, err := x.Round(v)
		checkErr(t, "Round", err, 0)
		if len(row) == 0 {
			out = append(out, alone(v))
		}
		for _, d := range row {
			out = append(out, behind(v, d))
		}
	}
	return out
}

// change lays an edge that is not laid at random corners, if they may be, or
// lifts one that is.
func change(t *testing.T, r *rand.Rand, x *turn.Turns, may func(a, b turn.Corner) bool) {
	t.Helper()
	_, edges := x.Sizes()
	e := r.Intn(edges)
	if x.Has(e) {
		if r.Intn(2) > 0 {
			checkErr(t, "Lift", x.Lift(e), 0)
		}
		return
	}
	list := corners(t, x)
	if a, b := list[r.Intn(len(list))], list[r.Intn(len(list))]; may(a, b) {
		checkErr(t, "Lay", x.Lay(e, a, b), 0)
	}
}

// anywhere is how edges are laid that may cross.
func anywhere(a, b turn.Corner) bool { return true }

// The chapter's example.
func TestExample(t *testing.T) {
	x := made(t, 2, 2)
	checkErr(t, "Lay", x.Lay(0, alone(0), alone(1)), 0)
	checkList(t, "Bridges", kin.Bridges(x), []int{0})
	checkBridge(t, x, 0, true, 0)
	checkErr(t, "Lay", x.Lay(1, behind(0, 0), behind(1, 1)), 0)
	checkList(t, "Bridges", kin.Bridges(x), nil)
	checkBridge(t, x, 0, false, 0)
	checkBridge(t, x, 1, false, 0)
}

// KI1, KI2: some answers written out, so that the lists above are held to
// something.
func TestWrittenOut(t *testing.T) {
	for _, c := range []struct {
		what    string
		rows    [][]int
		groups  []int
		bridges []int
	}{
		{"nothing", nil, []int{0, 1, 2, 3, 4}, nil},
		{"one edge", [][]int{nil, {0}, nil, {1}}, []int{0, 1, 2, 1, 4}, []int{0}},
		{"its darts the other way", [][]int{nil, {1}, nil, {0}}, []int{0, 1, 2, 1, 4}, []int{0}},
		{"a loop", [][]int{{0, 1}}, []int{0, 1, 2, 3, 4}, nil},
		{"a path", [][]int{{4}, {5, 2}, {3, 1}, {0}}, []int{0, 0, 0, 0, 4}, []int{0, 1, 2}},
		{"a star", [][]int{{1}, {3}, {5}, {7}, {0, 6, 2, 4}}, []int{0, 0, 0, 0, 0}, []int{0, 1, 2, 3}},
		{"a triangle", [][]int{nil, {0, 5}, {1, 2}, {3, 4}}, []int{0, 1, 1, 1, 4}, nil},
		{"a triangle with an edge", [][]int{{0, 5}, {1, 2}, {3, 4, 6}, {7}}, []int{0, 0, 0, 0, 4}, []int{3}},
		{"two rings and a bridge", [][]int{{0, 2}, {1, 3, 8}, nil, {9, 4, 6}, {5, 7}}, []int{0, 0, 2, 0, 0}, []int{4}},
		{"a loop at the end of an edge", [][]int{{0}, {1, 2, 3}}, []int{0, 0, 2, 3, 4}, []int{0}},
		{"two parts", [][]int{{2}, {0}, {3}, {1}}, []int{0, 1, 0, 1, 4}, []int{0, 1}},
		{"two rings that share a vertex", [][]int{{0, 2}, {1, 3, 4, 6}, {5, 7}}, []int{0, 0, 0, 3, 4}, nil},
		{"three edges side by side", [][]int{{0, 2, 4}, nil, nil, nil, {1, 3, 5}}, []int{0, 1, 2, 3, 0}, nil},
		{"darts between", [][]int{{12}, {8, 9}, nil, {13}}, []int{0, 1, 2, 0, 4}, []int{6}},
	} {
		t.Run(c.what, func(t *testing.T) {
			x := loaded(t, 5, 7, c.rows)
			checkList(t, "Groups", kin.Groups(x), c.groups)
			checkList(t, "Bridges", kin.Bridges(x), c.bridges)
			for e := range 7 {
				if x.Has(e) {
					checkBridge(t, x, e, slices.Contains(c.bridges, e), 0)
				}
			}
			readBack(t, x).checkAll(t, x)
		})
	}
}

// KI1: roads written out.
func TestRoadsWrittenOut(t *testing.T) {
	for _, c := range []struct {
		what string
		rows [][]int
		a, b int
		want []int
	}{
		{"to itself", [][]int{{0, 1, 2}, {3}}, 0, 0, nil},
		{"to itself, without darts", nil, 4, 4, nil},
		{"along an edge", [][]int{{0}, {1}}, 0, 1, []int{0}},
		{"along an edge, back", [][]int{{0}, {1}}, 1, 0, []int{1}},
		{"along a path", [][]int{{4}, {5, 2}, {3, 1}, {0}}, 0, 3, []int{4, 2, 1}},
		{"along a path, back", [][]int{{4}, {5, 2}, {3, 1}, {0}}, 3, 0, []int{0, 3, 5}},
		{"past a loop", [][]int{{0, 4, 1}, {5, 2, 3, 6}, {7}}, 0, 2, []int{4, 6}},
		{"the least of edges side by side", [][]int{{6, 2, 4}, {5, 7, 3}}, 0, 1, []int{2}},
		{"the same, back", [][]int{{6, 2, 4}, {5, 7, 3}}, 1, 0, []int{3}},
		{"the least darts turned round", [][]int{{3, 4}, {5, 2}}, 1, 0, []int{2}},
		{"the fewest edges, though of greater darts", [][]int{{0, 4}, {1, 2}, {3, 5}}, 0, 2, []int{4}},
		{"the least first dart, though not the least last one", [][]int{{2, 4}, {0, 5}, {3, 6}, {1, 7}}, 0, 3, []int{2, 6}},
		{"the same, back", [][]int{{2, 4}, {0, 5}, {3, 6}, {1, 7}}, 3, 0, []int{1, 5}},
		{"the least second dart", [][]int{{8}, {9, 4, 2}, {5, 6}, {3, 0}, {7, 1}}, 0, 4, []int{8, 2, 0}},
		{"not the least dart, if that leads off", [][]int{{0, 6}, {1}, {7, 8}, {9}}, 0, 3, []int{6, 8}},
		{"not the least dart, if that leads round", [][]int{{0, 6}, {1, 2}, {3, 4}, {5, 7}}, 0, 3, []int{6}},
	} {
		t.Run(c.what, func(t *testing.T) {
			x := loaded(t, 5, 6, c.rows)
			checkRoad(t, x, c.a, c.b, c.want, 0)
			readBack(t, x).checkAll(t, x)
		})
	}
}

// KI1, KI2: all turns of few vertices and edges, on spheres and not.
func TestEachSmall(t *testing.T) {
	var grow func(x *turn.Turns, e, edges int)
	grow = func(x *turn.Turns, e, edges int) {
		readBack(t, x).checkAll(t, x)
		if e == edges {
			return
		}
		list := corners(t, x)
		for _, a := range list {
			for _, b := range list {
				checkErr(t, "Lay", x.Lay(e, a, b), 0)
				grow(x, e+1, edges)
				checkErr(t, "Lift", x.Lift(e), 0)
			}
		}
	}
	for _, sizes := range [][2]int{{1, 3}, {2, 3}, {3, 3}, {4, 2}, {5, 1}} {
		grow(made(t, sizes[0], sizes[1]), 0, sizes[1])
	}
}

// KI1, KI2: all ways in which few edges may join few vertices.
func TestEachGraph(t *testing.T) {
	const vertices, edges = 4, 5
	var pairs [][2]int
	for a := range vertices {
		for b := a; b < vertices; b++ {
			pairs = append(pairs, [2]int{a, b})
		}
	}
	rows := make([][]int, vertices)
	var grow func(e int)
	grow = func(e int) {
		if e == edges {
			x := loaded(t, vertices, edges, rows)
			readBack(t, x).checkTogether(t, x)
			return
		}
		// It is not laid, or joins a pair.
		grow(e + 1)
		for _, p := range pairs {
			a, b := p[0], p[1]
			rows[a] = append(rows[a], 2*e)
			rows[b] = append(rows[b], 2*e+1)
			grow(e + 1)
			rows[b] = rows[b][:len(rows[b])-1]
			rows[a] = rows[a][:len(rows[a])-1]
		}
	}
	grow(0)
}

// KI1, KI2: turns that change, in long runs.
func TestLongRun(t *testing.T) {
	r := rand.New(rand.NewSource(15))
	for range 40 {
		x := made(t, 1+r.Intn(8), 1+r.Intn(12))
		for range 60 {
			change(t, r, x, anywhere)
			readBack(t, x).checkTogether(t, x)
		}
		readBack(t, x).checkAll(t, x)
	}
}

// steps are how many edges each vertex is away from one; -1: it is apart.
func (p *plain) steps(b int) []int {
	out := slices.Repeat([]int{-1}, p.vertices)
	out[b] = 0
	for k := range p.vertices {
		for d, from := range p.at {
			if from != none && out[from] == -1 && out[p.to(d)] == k {
				out[from] = k + 1
			}
		}
	}
	return out
}

// KI1: of greater maps a road goes nearer with each dart, and no lesser one of
// its vertex does.
func TestRoadEachDart(t *testing.T) {
	r := rand.New(rand.NewSource(151))
	for range 60 {
		x := made(t, 2+r.Intn(40), 60)
		for range 150 {
			change(t, r, x, anywhere)
		}
		p := readBack(t, x)
		for b := range p.vertices {
			steps := p.steps(b)
			for a := range p.vertices {
				if steps[a] == -1 {
					checkRoad(t, x, a, b, nil, api.ErrApart)
					continue
				}
				list, err := kin.Road(x, a, b)
				checkErr(t, "Road", err, 0)
				v := a
				for _, d := range list {
					least := slices.IndexFunc(upTo(len(p.at)), func(d int) bool {
						return p.at[d] == v && steps[p.to(d)] == steps[v]-1
					})
					if d != least {
						t.Fatalf("Road(%d, %d): %v: from %d on %d is the least that leads nearer", a, b, list, v, least)
					}
					v = p.to(d)
				}
				if v != b {
					t.Fatalf("Road(%d, %d): %v ends at %d", a, b, list, v)
				}
			}
		}
	}
}

// many is how many groups there are.
func many(x *turn.Turns) int {
	n := 0
	for v, least := range kin.Groups(x) {
		if v == least {
			n++
		}
	}
	return n
}

// checkTaken fails unless each edge is a bridge just where, taken away, there is
// one group more; no other number of groups may be then.
func checkTaken(t *testing.T, x *turn.Turns) {
	t.Helper()
	_, edges := x.Sizes()
	bridges, before := kin.Bridges(x), many(x)
	for e := range edges {
		if !x.Has(e) {
			continue
		}
		more := 0
		if slices.Contains(bridges, e) {
			more = 1
		}
		checkBridge(t, x, e, more == 1, 0)
		y := loaded(t, len(kin.Groups(x)), edges, rowsOf(t, x))
		checkErr(t, "Lift", y.Lift(e), 0)
		if many(y) != before+more {
			t.Fatalf("with the edge %d there are %d groups, without it %d; bridges: %v", e, before, many(y), bridges)
		}
	}
}

// rowsOf are what stands round each vertex.
func rowsOf(t *testing.T, x *turn.Turns) [][]int {
	t.Helper()
	vertices, _ := x.Sizes()
	out := make([][]int, vertices)
	for v := range out {
		row, err := x.Round(v)
		checkErr(t, "Round", err, 0)
		out[v] = row
	}
	return out
}

// KI3: bridges, and how many groups there are.
func TestTakenAway(t *testing.T) {
	r := rand.New(rand.NewSource(153))
	for range 50 {
		x := made(t, 1+r.Intn(12), 1+r.Intn(16))
		for range 20 {
			change(t, r, x, anywhere)
			change(t, r, x, anywhere)
			checkTaken(t, x)
		}
	}
}

// KI3: where all is flat, a bridge's darts are of one face, and those of no other
// edge are.
func TestFlat(t *testing.T) {
	r := rand.New(rand.NewSource(154))
	bridges, others := 0, 0
	for range 50 {
		x := made(t, 1+r.Intn(20), 1+r.Intn(40))
		_, edges := x.Sizes()
		legal := func(a, b turn.Corner) bool {
			is, err := sphere.Legal(x, a, b)
			checkErr(t, "Legal", err, 0)
			return is
		}
		for range 100 {
			change(t, r, x, legal)
			list := kin.Bridges(x)
			for e := range edges {
				if !x.Has(e) {
					continue
				}
				walk, err := face.Walk(x, 2*e)
				checkErr(t, "Walk", err, 0)
				is := slices.Contains(walk, 2*e+1)
				if is != slices.Contains(list, e) {
					t.Fatalf("the edge %d of the face %v; bridges: %v", e, walk, list)
				}
				checkBridge(t, x, e, is, 0)
				if is {
					bridges++
				} else {
					others++
				}
			}
		}
	}
	if bridges < 1000 || others < 1000 {
		t.Fatalf("too few to tell anything: %d bridges, %d others", bridges, others)
	}
}

// KI3: where not all is flat, darts of one face need be of no bridge.
func TestNotFlat(t *testing.T) {
	x := loaded(t, 2, 3, [][]int{{0, 2, 4}, {1, 3, 5}})
	walk, err := face.Walk(x, 0)
	checkErr(t, "Walk", err, 0)
	if len(walk) != 6 {
		t.Fatalf("the face: %v", walk)
	}
	checkList(t, "Bridges", kin.Bridges(x), nil)
	for e := range 3 {
		checkBridge(t, x, e, false, 0)
	}
}

// Wrong arguments.

func TestFar(t *testing.T) {
	for _, rows := range [][][]int{nil, {{0, 2}, {1, 3}, {}}} {
		x := loaded(t, 3, 4, rows)
		for _, n := range append([]int{4, 5, 8}, far...) {
			checkRoad(t, x, n, 0, nil, api.ErrRange)
			checkRoad(t, x, 0, n, nil, api.ErrRange)
			checkRoad(t, x, n, n, nil, api.ErrRange)
			checkBridge(t, x, n, false, api.ErrRange)
		}
		checkRoad(t, x, 3, 2, nil, api.ErrRange)
		checkRoad(t, x, 2, 3, nil, api.ErrRange)
		checkRoad(t, x, 2, 1, nil, api.ErrApart)
		checkRoad(t, x, 1, 2, nil, api.ErrApart)
		checkBridge(t, x, 3, false, api.ErrStale)
	}
}

// KI2: edges that are not laid, or not any more.
func TestStale(t *testing.T) {
	x := loaded(t, 3, 4, [][]int{{0}, {1, 4}, {5}})
	checkBridge(t, x, 1, false, api.ErrStale)
	checkBridge(t, x, 3, false, api.ErrStale)
	checkErr(t, "Lift", x.Lift(0), 0)
	checkBridge(t, x, 0, false, api.ErrStale)
	checkBridge(t, x, 2, true, 0)
	checkList(t, "Bridges", kin.Bridges(x), []int{2})
	checkList(t, "Groups", kin.Groups(x), []int{0, 1, 1})
	checkRoad(t, x, 0, 1, nil, api.ErrApart)
	checkRoad(t, x, 0, 0, nil, 0)
	checkErr(t, "Lift", x.Lift(2), 0)
	checkBridge(t, x, 2, false, api.ErrStale)
	checkList(t, "Bridges", kin.Bridges(x), nil)
}

// Nil Turns: ErrArg ahead of all, and nothing.
func TestNil(t *testing.T) {
	checkList(t, "Groups", kin.Groups(nil), nil)
	checkList(t, "Bridges", kin.Bridges(nil), nil)
	for _, n := range append([]int{0, 1}, far...) {
		checkRoad(t, nil, n, n, nil, api.ErrArg)
		checkRoad(t, nil, n, 0, nil, api.ErrArg)
		checkRoad(t, nil, 0, n, nil, api.ErrArg)
		checkBridge(t, nil, n, false, api.ErrArg)
	}
}

// Answers are new memory.

// spoil writes into a list, and into its spare room.
func spoil(list []int) {
	for i := range list[:cap(list)] {
		list[:cap(list)][i] = -9
	}
}

func TestAnswersAreNew(t *testing.T) {
	x := loaded(t, 6, 7, [][]int{{0, 2}, {1, 4}, {3, 6}, {5, 7, 8}, {9}})
	for _, c := range []struct {
		what string
		ask  func() []int
		want []int
	}{
		{"Groups", func() []int { return kin.Groups(x) }, []int{0, 0, 0, 0, 0, 5}},
		{"Bridges", func() []int { return kin.Bridges(x) }, []int{4}},
		{"Road", func() []int { list, _ := kin.Road(x, 0, 4); return list }, []int{0, 4, 8}},
	} {
		one, two := c.ask(), c.ask()
		checkList(t, c.what, one, c.want)
		spoil(one)
		checkList(t, c.what+", another answer", two, c.want)
		checkList(t, c.what+", asked again", c.ask(), c.want)
		readBack(t, x).checkAll(t, x)
	}
	groups, bridges := kin.Groups(x), kin.Bridges(x)
	road, err := kin.Road(x, 0, 4)
	checkErr(t, "Road", err, 0)
	checkErr(t, "Lift", x.Lift(0), 0)
	checkErr(t, "Lift", x.Lift(4), 0)
	checkList(t, "Groups, behind a change", groups, []int{0, 0, 0, 0, 0, 5})
	checkList(t, "Bridges, behind a change", bridges, []int{4})
	checkList(t, "Road, behind a change", road, []int{0, 4, 8})
}

// Asking changes nothing.
func TestAsksOnly(t *testing.T) {
	x := loaded(t, 6, 7, [][]int{{0, 5, 8, 9}, {1, 2, 10}, {3, 4, 6}, {7}, {11}})
	before := rowsOf(t, x)
	readBack(t, x).checkAll(t, x)
	if after := rowsOf(t, x); !slices.EqualFunc(before, after, slices.Equal) {
		t.Fatalf("asked, the turns are %v, were %v", after, before)
	}
	if vertices, edges := x.Sizes(); vertices != 6 || edges != 7 {
		t.Fatalf("asked, the sizes are %d, %d", vertices, edges)
	}
}

// The most vertices and edges.

// joinedBy are turns of the most vertices in which each of so many edges joins
// two, by a rule.
func joinedBy(t *testing.T, edges int, ends func(e int) (int, int)) *turn.Turns {
	t.Helper()
	rows := make([][]int, most)
	for e := range edges {
		a, b := ends(e)
		rows[a] = append(rows[a], 2*e)
		rows[b] = append(rows[b], 2*e+1)
	}
	return loaded(t, most, most, rows)
}

// checkOneGroup fails unless all vertices hang together.
func checkOneGroup(t *testing.T, x *turn.Turns) {
	t.Helper()
	if k := slices.IndexFunc(kin.Groups(x), func(v int) bool { return v != 0 }); k >= 0 {
		t.Fatalf("the vertex %d doesn't hang together with 0", k)
	}
}

// A path of all vertices, its edges mixed.
func TestPathMany(t *testing.T) {
	order := rand.New(rand.NewSource(155)).Perm(most - 1)
	x := joinedBy(t, most-1, func(e int) (int, int) { return order[e], order[e] + 1 })
	checkOneGroup(t, x)
	if !slices.Equal(kin.Bridges(x), upTo(most-1)) {
		t.Fatal("not all edges of a path are bridges")
	}
	road, err := kin.Road(x, 0, most-1)
	checkErr(t, "Road", err, 0)
	back, err := kin.Road(x, most-1, 0)
	checkErr(t, "Road", err, 0)
	if len(road) != most-1 || len(back) != most-1 {
		t.Fatalf("Road: %d darts, and %d", len(road), len(back))
	}
	for k, d := range road {
		if order[d/2] != k || d%2 != 0 || back[most-2-k] != d+1 {
			t.Fatalf("Road: at %d the dart %d, back %d", k, d, back[most-2-k])
		}
	}
	checkBridge(t, x, 0, true, 0)
	checkBridge(t, x, most-2, true, 0)
	checkBridge(t, x, most-1, false, api.ErrStale)
	e := road[most/2] / 2
	checkErr(t, "Lift", x.Lift(e), 0)
	checkRoad(t, x, 0, most-1, nil, api.ErrApart)
	for v, least := range kin.Groups(x) {
		if want := v / (most/2 + 1) * (most/2 + 1); least != want {
			t.Fatalf("the group of %d is %d, want %d", v, least, want)
		}
	}
}

// A cycle of all vertices.
func TestCycleMany(t *testing.T) {
	x := joinedBy(t, most, func(e int) (int, int) { return e, (e + 1) % most })
	checkOneGroup(t, x)
	checkList(t, "Bridges", kin.Bridges(x), nil)
	checkBridge(t, x, 0, false, 0)
	checkBridge(t, x, most-1, false, 0)
	// Both ways are as long: the one whose first dart is least is taken.
	for _, a := range []int{0, 1, most / 4, most/2 + 1} {
		road, err := kin.Road(x, a, (a+most/2)%most)
		checkErr(t, "Road", err, 0)
		least := min(2*a, (2*a+2*most-1)%(2*most))
		if len(road) != most/2 || road[0] != least {
			t.Fatalf("Road: %d darts, the first %d, want %d", len(road), road[0], least)
		}
	}
	checkErr(t, "Lift", x.Lift(0), 0)
	if len(kin.Bridges(x)) != most-1 {
		t.Fatalf("Bridges: %d, want %d", len(kin.Bridges(x)), most-1)
	}
}

// All edges at one vertex: to one other each, to one other all, and loops.
func TestOneVertexMany(t *testing.T) {
	x := joinedBy(t, most-1, func(e int) (int, int) { return e + 1, 0 })
	checkOneGroup(t, x)
	if !slices.Equal(kin.Bridges(x), upTo(most-1)) {
		t.Fatal("not all edges of a star are bridges")
	}
	checkRoad(t, x, most-1, 1, []int{2*most - 4, 1}, 0)
	checkRoad(t, x, 1, most-1, []int{0, 2*most - 3}, 0)
	checkBridge(t, x, most-2, true, 0)

	x = joinedBy(t, most, func(e int) (int, int) { return 7, 5 })
	checkList(t, "Bridges", kin.Bridges(x), nil)
	checkRoad(t, x, 7, 5, []int{0}, 0)
	checkRoad(t, x, 5, 7, []int{1}, 0)
	checkRoad(t, x, 5, 6, nil, api.ErrApart)
	want := upTo(most)
	want[7] = 5
	if !slices.Equal(kin.Groups(x), want) {
		t.Fatal("Groups of edges side by side: others")
	}

	x = joinedBy(t, most, func(e int) (int, int) { return most - 1, most - 1 })
	checkList(t, "Bridges", kin.Bridges(x), nil)
	checkBridge(t, x, most-1, false, 0)
	if !slices.Equal(kin.Groups(x), upTo(most)) {
		t.Fatal("Groups of loops: others")
	}
	checkRoad(t, x, most-1, most-1, nil, 0)
	checkRoad(t, x, most-1, 0, nil, api.ErrApart)
}

// Many small parts: the whole needs a few steps for each, more would take hours.
func TestPartsMany(t *testing.T) {
	x := joinedBy(t, most/2, func(e int) (int, int) { return most - 1 - e, e })
	for v, least := range kin.Groups(x) {
		if least != min(v, most-1-v) {
			t.Fatalf("the group of %d is %d", v, least)
		}
	}
	if !slices.Equal(kin.Bridges(x), upTo(most/2)) {
		t.Fatal("not all edges alone are bridges")
	}
}

// The last vertex and edge, of Turns with much room.
func TestLast(t *testing.T) {
	x := made(t, most, most)
	if !slices.Equal(kin.Groups(x), upTo(most)) {
		t.Fatal("Groups without edges: others")
	}
	checkList(t, "Bridges", kin.Bridges(x), nil)
	checkBridge(t, x, most-1, false, api.ErrStale)
	checkBridge(t, x, most, false, api.ErrRange)
	checkRoad(t, x, most-1, 0, nil, api.ErrApart)
	checkErr(t, "Lay", x.Lay(most-1, alone(0), alone(most-1)), 0)
	checkList(t, "Bridges", kin.Bridges(x), []int{most - 1})
	checkBridge(t, x, most-1, true, 0)
	checkRoad(t, x, most-1, 0, []int{2*most - 1}, 0)
	checkRoad(t, x, 0, most-1, []int{2*most - 2}, 0)
	checkRoad(t, x, 0, most, nil, api.ErrRange)
	want := upTo(most)
	want[most-1] = 0
	if !slices.Equal(kin.Groups(x), want) {
		t.Fatal("Groups of one edge: others")
	}
}
