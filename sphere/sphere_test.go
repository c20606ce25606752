package sphere_test

import (
	"errors"
	"math"
	"math/rand"
	"slices"
	"testing"

	"plait/api"
	"plait/face"
	"plait/sphere"
	"plait/turn"
)

// most is how many vertices, and how many edges, there are at most.
const most = 1 << 20

// none is no dart, as the document has it.
const none = -1

// far are numbers that are no vertex and no dart, in Turns that are small; some
// of them are small ones, cut to 64 bits, or to 32.
var far = []int{-1, -2, -3, math.MinInt, math.MinInt + 1, math.MinInt32, -1 << 32, -1 << 62, 2 * most, 2*most + 1, math.MaxInt32, 1 << 31, math.MaxUint32, 1 << 32, 1<<32 + 1, 1 << 62, math.MaxInt - 1, math.MaxInt}

// checkErr fails unless err is the number want (0: nil), as errors.As finds it.
func checkErr(t *testing.T, what string, err error, want api.Errno) {
	t.Helper()
	if want == 0 {
		if err != nil {
			t.Fatalf("%s: error %v, want none", what, err)
		}
		return
	}
	var e api.Errno
	if !errors.As(err, &e) || e != want {
		t.Fatalf("%s: error %v, want %v", what, err, want)
	}
}

// check fails unless a call answered just that.
func check[T comparable](t *testing.T, what string, got T, err error, want T, wantErr api.Errno) {
	t.Helper()
	checkErr(t, what, err, wantErr)
	if got != want {
		t.Fatalf("%s: %v, want %v", what, got, want)
	}
}

// checkMap fails unless Count and Flat answer just that.
func checkMap(t *testing.T, x *turn.Turns, vertices []int, want sphere.Counts, flat bool) {
	t.Helper()
	counts, err := sphere.Count(x, vertices)
	check(t, "Count", counts, err, want, 0)
	is, err := sphere.Flat(x, vertices)
	check(t, "Flat", is, err, flat, 0)
}

// checkWrong fails unless Count and Flat answer that error, and nothing else.
func checkWrong(t *testing.T, x *turn.Turns, vertices []int, want api.Errno) {
	t.Helper()
	counts, err := sphere.Count(x, vertices)
	check(t, "Count", counts, err, sphere.Counts{}, want)
	is, err := sphere.Flat(x, vertices)
	check(t, "Flat", is, err, false, want)
}

func made(t *testing.T, vertices, edges int) *turn.Turns {
	t.Helper()
	x, err := turn.New(vertices, edges)
	checkErr(t, "New", err, 0)
	return x
}

func loaded(t *testing.T, vertices, edges int, round [][]int) *turn.Turns {
	t.Helper()
	x, err := turn.Load(vertices, edges, round)
	checkErr(t, "Load", err, 0)
	return x
}

// behind is the corner behind a dart, and alone that of a vertex without any.
func behind(v, d int) turn.Corner { return turn.Corner{Vertex: v, Behind: d} }
func alone(v int) turn.Corner     { return turn.Corner{Vertex: v, Behind: none} }

// upTo are the numbers below n.
func upTo(n int) []int {
	out := make([]int, n)
	for v := range out {
		out[v] = v
	}
	return out
}

// plain is a map as plain lists: what stands round each vertex. They are gone
// over anew for each question.
type plain struct {
	edges int
	rows  [][]int
}

// readBack are the turns as plain lists.
func readBack(t *testing.T, x *turn.Turns) *plain {
	t.Helper()
	vertices, edges := x.Sizes()
	p := &plain{edges: edges}
	for v := range vertices {
		row, err := x.Round(v)
		checkErr(t, "Round", err, 0)
		p.rows = append(p.rows, row)
	}
	return p
}

// origin is the vertex where a dart stands, or none.
func (p *plain) origin(d int) int {
	return slices.IndexFunc(p.rows, func(row []int) bool { return slices.Contains(row, d) })
}

// after is the dart behind one that is laid, round its vertex.
func (p *plain) after(d int) int {
	row := p.rows[p.origin(d)]
	return row[(slices.Index(row, d)+1)%len(row)]
}

// other is a dart's twin.
func other(d int) int {
	if d%2 == 0 {
		return d + 1
	}
	return d - 1
}

// walk is the face of a dart that is laid, it first.
func (p *plain) walk(d int) []int {
	list := []int{d}
	for x := p.after(other(d)); x != d; x = p.after(other(x)) {
		list = append(list, x)
	}
	return list
}

// part are the vertices that edges join with one, ascending.
func (p *plain) part(v int) []int {
	list := []int{v}
	for k := 0; k < len(list); k++ {
		for _, d := range p.rows[list[k]] {
			if to := p.origin(other(d)); !slices.Contains(list, to) {
				list = append(list, to)
			}
		}
	}
	slices.Sort(list)
	return list
}

// countPart counts a component.
func (p *plain) countPart(part []int) sphere.Counts {
	c := sphere.Counts{V: len(part), C: 1}
	for _, v := range part {
		if len(p.rows[v]) == 0 {
			c.F++
		}
		for _, d := range p.rows[v] {
			if d%2 == 0 {
				c.E++
			}
			if slices.Min(p.walk(d)) == d {
				c.F++
			}
		}
	}
	return c
}

// count counts all, and tells whether it is flat, of vertices that may be.
func (p *plain) count(vertices []int) (sphere.Counts, bool) {
	all, flat := sphere.Counts{}, true
	for _, v := range vertices {
		part := p.part(v)
		if part[0] != v {
			continue
		}
		c := p.countPart(part)
		all.V, all.E, all.F, all.C = all.V+c.V, all.E+c.E, all.F+c.F, all.C+c.C
		flat = flat && c.V-c.E+c.F == 2
	}
	return all, flat
}

// checkCorner is the error of a corner.
func (p *plain) checkCorner(c turn.Corner) api.Errno {
	if c.Vertex < 0 || c.Vertex >= len(p.rows) {
		return api.ErrRange
	}
	row := p.rows[c.Vertex]
	if slices.Contains(row, c.Behind) || c.Behind == none && len(row) == 0 {
		return 0
	}
	return api.ErrStale
}

// legal is what Legal answers.
func (p *plain) legal(a, b turn.Corner) (bool, api.Errno) {
	for _, c := range []turn.Corner{a, b} {
		if err := p.checkCorner(c); err != 0 {
			return false, err
		}
	}
	if !slices.Contains(p.part(a.Vertex), b.Vertex) {
		return true, 0
	}
	if a.Behind == none {
		return true, 0
	}
	return slices.Contains(p.walk(p.after(a.Behind)), p.after(b.Behind)), 0
}

// corners are all that there are.
func (p *plain) corners() []turn.Corner {
	var out []turn.Corner
	for v, row := range p.rows {
		if len(row) == 0 {
			out = append(out, alone(v))
		}
		for _, d := range row {
			out = append(out, behind(v, d))
		}
	}
	return out
}

// nearby are all corners that there are, and those close by that there are not.
func (p *plain) nearby() []turn.Corner {
	var out []turn.Corner
	for v := -1; v <= len(p.rows); v++ {
		for d := -2; d <= 2*p.edges; d++ {
			out = append(out, behind(v, d))
		}
	}
	return out
}

// somewhere is a corner that there is.
func (p *plain) somewhere(r *rand.Rand) turn.Corner {
	all := p.corners()
	return all[r.Intn(len(all))]
}

// wrong is the error of a list of vertices, each rule gone over by itself.
func (p *plain) wrong(vertices []int) api.Errno {
	for _, v := range vertices {
		if v < 0 || v >= len(p.rows) {
			return api.ErrRange
		}
	}
	for k, v := range vertices {
		if slices.Contains(vertices[:k], v) {
			return api.ErrSame
		}
	}
	for v, row := range p.rows {
		if len(row) > 0 && !slices.Contains(vertices, v) {
			return api.ErrStale
		}
	}
	return 0
}

// checkList fails unless Count and Flat of a list answer what the lists tell.
func (p *plain) checkList(t *testing.T, x *turn.Turns, vertices []int) {
	t.Helper()
	if err := p.wrong(vertices); err != 0 {
		checkWrong(t, x, vertices, err)
		return
	}
	want, flat := p.count(vertices)
	checkMap(t, x, vertices, want, flat)
}

// checkLegal fails unless Legal answers what the lists tell.
func (p *plain) checkLegal(t *testing.T, x *turn.Turns, a, b turn.Corner) {
	t.Helper()
	want, wantErr := p.legal(a, b)
	got, err := sphere.Legal(x, a, b)
	check(t, "Legal", got, err, want, wantErr)
}

// checkLaid lays an edge between two corners that there are, and fails unless
// a flat map stays flat just where that is legal.
func checkLaid(t *testing.T, x *turn.Turns, e int, a, b turn.Corner) {
	t.Helper()
	vertices, _ := x.Sizes()
	flat, err := sphere.Flat(x, upTo(vertices))
	checkErr(t, "Flat", err, 0)
	legal, err := sphere.Legal(x, a, b)
	checkErr(t, "Legal", err, 0)
	checkErr(t, "Lay", x.Lay(e, a, b), 0)
	still, err := sphere.Flat(x, upTo(vertices))
	check(t, "Flat behind Lay", still, err, flat && legal, 0)
}

// The chapter's examples.
func TestExample(t *testing.T) {
	x := made(t, 2, 1)
	checkErr(t, "Lay", x.Lay(0, alone(0), alone(1)), 0)
	checkMap(t, x, []int{0, 1}, sphere.Counts{V: 2, E: 1, F: 1, C: 1}, true)
	x = loaded(t, 1, 2, [][]int{{0, 2, 1, 3}})
	checkMap(t, x, []int{0}, sphere.Counts{V: 1, E: 2, F: 1, C: 1}, false)
}

// SR1: some answers written out, so that the lists above are held to something.
func TestWrittenOut(t *testing.T) {
	for _, c := range []struct {
		what string
		rows [][]int
		list []int
		want sphere.Counts
		flat bool
	}{
		{"nothing", nil, nil, sphere.Counts{}, true},
		{"an empty list", nil, []int{}, sphere.Counts{}, true},
		{"a vertex", nil, []int{3}, sphere.Counts{V: 1, F: 1, C: 1}, true},
		{"vertices", nil, []int{4, 0, 2}, sphere.Counts{V: 3, F: 3, C: 3}, true},
		{"an edge", [][]int{{0}, {1}}, []int{0, 1}, sphere.Counts{V: 2, E: 1, F: 1, C: 1}, true},
		{"an edge, and a vertex", [][]int{{0}, {1}}, []int{1, 4, 0}, sphere.Counts{V: 3, E: 1, F: 2, C: 2}, true},
		{"a path", [][]int{{0}, {1, 2}, {3}}, []int{2, 1, 0}, sphere.Counts{V: 3, E: 2, F: 1, C: 1}, true},
		{"a triangle", [][]int{{0, 5}, {1, 2}, {3, 4}}, []int{0, 1, 2}, sphere.Counts{V: 3, E: 3, F: 2, C: 1}, true},
		{"two edges side by side", [][]int{{0, 2}, {1, 3}}, []int{0, 1}, sphere.Counts{V: 2, E: 2, F: 2, C: 1}, true},
		{"a loop", [][]int{{}, {0, 1}}, []int{1}, sphere.Counts{V: 1, E: 1, F: 2, C: 1}, true},
		{"two loops", [][]int{{0, 1, 2, 3}}, []int{0}, sphere.Counts{V: 1, E: 2, F: 3, C: 1}, true},
		{"two loops, one within", [][]int{{0, 2, 3, 1}}, []int{0}, sphere.Counts{V: 1, E: 2, F: 3, C: 1}, true},
		{"two loops that cross", [][]int{{0, 2, 1, 3}}, []int{0}, sphere.Counts{V: 1, E: 2, F: 1, C: 1}, false},
		{"crossed twice over", [][]int{{0, 2, 1, 3, 4, 6, 5, 7}}, []int{0}, sphere.Counts{V: 1, E: 4, F: 1, C: 1}, false},
		{"three edges side by side", [][]int{{0, 2, 4}, {5, 3, 1}}, []int{0, 1}, sphere.Counts{V: 2, E: 3, F: 3, C: 1}, true},
		{"three edges, twisted", [][]int{{0, 2, 4}, {1, 3, 5}}, []int{0, 1}, sphere.Counts{V: 2, E: 3, F: 1, C: 1}, false},
		{"two parts", [][]int{{2}, {0}, {3}, {1}}, []int{0, 1, 2, 3}, sphere.Counts{V: 4, E: 2, F: 2, C: 2}, true},
		{"a part is not flat", [][]int{{0}, {1}, {4, 6, 5, 7}}, []int{0, 1, 2}, sphere.Counts{V: 3, E: 3, F: 2, C: 2}, false},
		{"the first part is not flat", [][]int{{4, 6, 5, 7}, {0}, {1}, {}}, []int{0, 1, 2, 3}, sphere.Counts{V: 4, E: 3, F: 3, C: 3}, false},
		// Four vertices, each with an edge to each other one.
		{"a pyramid", [][]int{{0, 2, 4}, {1, 8, 6}, {3, 7, 10}, {5, 11, 9}}, []int{3, 2, 1, 0}, sphere.Counts{V: 4, E: 6, F: 4, C: 1}, true},
		{"a pyramid, one vertex turned round", [][]int{{0, 4, 2}, {1, 8, 6}, {3, 7, 10}, {5, 11, 9}}, []int{3, 2, 1, 0}, sphere.Counts{V: 4, E: 6, F: 2, C: 1}, false},
	} {
		t.Run(c.what, func(t *testing.T) {
			x := loaded(t, 5, 7, c.rows)
			checkMap(t, x, c.list, c.want, c.flat)
			p := readBack(t, x)
			want, flat := p.count(c.list)
			if want != c.want || flat != c.flat {
				t.Fatalf("the lists: %v, %v", want, flat)
			}
			for _, a := range p.nearby() {
				for _, b := range p.nearby() {
					p.checkLegal(t, x, a, b)
				}
			}
		})
	}
}

// SR1: a component that is not flat is not made up for by another one.
func TestEachComponent(t *testing.T) {
	rows := [][]int{{0, 2, 1, 3}, {}, {4, 5}, {6, 8, 7, 9}, {}, {10}, {11}}
	x := loaded(t, 9, 6, rows)
	for range 20 {
		checkMap(t, x, upTo(9), sphere.Counts{V: 9, E: 6, F: 9, C: 8}, false)
	}
	checkErr(t, "Lift", x.Lift(0), 0)
	checkMap(t, x, upTo(9), sphere.Counts{V: 9, E: 5, F: 10, C: 8}, false)
	checkErr(t, "Lift", x.Lift(4), 0)
	checkMap(t, x, upTo(9), sphere.Counts{V: 9, E: 4, F: 11, C: 8}, true)
}

// SR1: the order of the list tells nothing, and a vertex without darts that is
// not in it is not there.
func TestList(t *testing.T) {
	x := loaded(t, 8, 5, [][]int{{}, {0, 5}, {1, 2}, {3, 4, 6}, {}, {7}})
	r := rand.New(rand.NewSource(12))
	p := readBack(t, x)
	for range 200 {
		list := []int{1, 2, 3, 5}
		for _, v := range []int{0, 4, 6, 7} {
			if r.Intn(2) == 0 {
				list = append(list, v)
			}
		}
		r.Shuffle(len(list), func(i, k int) { list[i], list[k] = list[k], list[i] })
		bare := len(list) - 4
		checkMap(t, x, list, sphere.Counts{V: 4 + bare, E: 4, F: 2 + bare, C: 1 + bare}, true)
		p.checkList(t, x, list)
	}
}

// SR2: which corners may be joined, written out.
func TestLegalWrittenOut(t *testing.T) {
	// A triangle of which the vertex 2 has an edge to the vertex 3, within the
	// face 1, 5, 3; the vertices 4 and 5 have an edge, 6 and 7 no darts.
	x := loaded(t, 8, 5, [][]int{{0, 5}, {1, 2}, {3, 4, 6}, {7}, {8}, {9}})
	inner := []turn.Corner{behind(0, 5), behind(1, 1), behind(2, 3)}
	outer := []turn.Corner{behind(0, 0), behind(1, 2), behind(2, 4), behind(2, 6), behind(3, 7)}
	others := [][]turn.Corner{{behind(4, 8), behind(5, 9)}, {alone(6)}, {alone(7)}}
	for i, list := range append([][]turn.Corner{inner, outer}, others...) {
		for k, more := range append([][]turn.Corner{inner, outer}, others...) {
			for _, a := range list {
				for _, b := range more {
					got, err := sphere.Legal(x, a, b)
					check(t, "Legal", got, err, i == k || i > 1 || k > 1, 0)
				}
			}
		}
	}
}

// SR2: what is legal is told of maps that are not flat, too.
func TestLegalNotFlat(t *testing.T) {
	// Loops that cross at 0, two loops at 1, nothing at 2.
	x := loaded(t, 3, 4, [][]int{{0, 2, 1, 3}, {4, 5, 6, 7}})
	p := readBack(t, x)
	for _, a := range p.corners() {
		for _, b := range p.corners() {
			p.checkLegal(t, x, a, b)
		}
	}
	for _, c := range []struct {
		a, b turn.Corner
		want bool
	}{
		{behind(0, 0), behind(0, 1), true},
		{behind(0, 2), behind(0, 3), true},
		{behind(0, 2), behind(1, 4), true},
		{behind(1, 4), behind(1, 6), false},
		{behind(1, 5), behind(1, 7), true},
		{alone(2), behind(0, 3), true},
		{alone(2), alone(2), true},
	} {
		got, err := sphere.Legal(x, c.a, c.b)
		check(t, "Legal", got, err, c.want, 0)
	}
}

// eachMap goes over all maps of few vertices and edges, on spheres and not.
func eachMap(t *testing.T, x *turn.Turns, e int, see func(e int)) {
	see(e)
	_, edges := x.Sizes()
	if e == edges {
		return
	}
	all := readBack(t, x).corners()
	for _, a := range all {
		for _, b := range all {
			checkErr(t, "Lay", x.Lay(e, a, b), 0)
			eachMap(t, x, e+1, see)
			checkErr(t, "Lift", x.Lift(e), 0)
		}
	}
}

// SR1 to SR3: all maps of few vertices and edges.
func TestEachSmall(t *testing.T) {
	for _, sizes := range [][2]int{{1, 3}, {2, 3}, {3, 2}, {4, 2}} {
		x := made(t, sizes[0], sizes[1])
		eachMap(t, x, 0, func(e int) {
			p := readBack(t, x)
			p.checkList(t, x, upTo(sizes[0]))
			for _, a := range p.corners() {
				for _, b := range p.corners() {
					p.checkLegal(t, x, a, b)
					if e == sizes[1] {
						continue
					}
					checkLaid(t, x, e, a, b)
					checkErr(t, "Lift", x.Lift(e), 0)
				}
			}
		})
	}
}

// SR1: all lists of a few numbers, wrong ones too, of all small maps.
func TestEachList(t *testing.T) {
	x := made(t, 3, 1)
	eachMap(t, x, 0, func(int) {
		p := readBack(t, x)
		var grow func(list []int)
		grow = func(list []int) {
			p.checkList(t, x, list)
			if len(list) == 4 {
				return
			}
			for v := -1; v <= 3; v++ {
				grow(append(slices.Clone(list), v))
			}
		}
		grow(nil)
	})
}

// SR1 to SR3: maps that change, in long runs; some are kept flat, others not.
func TestLongRun(t *testing.T) {
	r := rand.New(rand.NewSource(3))
	for run := range 30 {
		vertices, edges := 1+r.Intn(8), 1+r.Intn(14)
		x := made(t, vertices, edges)
		for range 80 {
			e, p := r.Intn(edges), readBack(t, x)
			if x.Has(e) {
				if r.Intn(3) > 0 {
					checkErr(t, "Lift", x.Lift(e), 0)
				}
			} else {
				a, b := p.somewhere(r), p.somewhere(r)
				p.checkLegal(t, x, a, b)
				checkLaid(t, x, e, a, b)
				if legal, _ := p.legal(a, b); run%2 == 0 && !legal {
					checkErr(t, "Lift", x.Lift(e), 0)
				}
			}
			p = readBack(t, x)
			list := r.Perm(vertices)
			p.checkList(t, x, list)
			if flat, _ := sphere.Flat(x, list); run%2 == 0 && !flat {
				t.Fatal("legal edges alone, and not flat")
			}
			p.checkList(t, x, list[:r.Intn(len(list)+1)])
			for range 10 {
				p.checkLegal(t, x, p.somewhere(r), p.somewhere(r))
			}
		}
	}
}

// Wrong arguments.

// SR1: each error, and which is told first, wherever in the list it is.
func TestListErrors(t *testing.T) {
	x := loaded(t, 5, 3, [][]int{{}, {0, 2}, {1, 3}, {}})
	for _, c := range []struct {
		list []int
		want api.Errno
	}{
		{nil, api.ErrStale},
		{[]int{}, api.ErrStale},
		{[]int{1}, api.ErrStale},
		{[]int{2}, api.ErrStale},
		{[]int{0, 3, 4}, api.ErrStale},
		{[]int{1, 2}, 0},
		{[]int{4, 2, 1}, 0},
		{[]int{1, 2, 1}, api.ErrSame},
		{[]int{1, 2, 2}, api.ErrSame},
		{[]int{1, 2, 4, 0, 4}, api.ErrSame},
		{[]int{0, 0}, api.ErrSame},
		{[]int{1, 1}, api.ErrSame},
		{[]int{5}, api.ErrRange},
		{[]int{1, 2, 5}, api.ErrRange},
		{[]int{1, 2, -1}, api.ErrRange},
		{[]int{1, 1, 2, 5}, api.ErrRange},
		{[]int{3, 3, -1}, api.ErrRange},
		{[]int{5, 5}, api.ErrRange},
		{[]int{-1, 1}, api.ErrRange},
	} {
		_, err := sphere.Count(x, c.list)
		checkErr(t, "Count", err, c.want)
		_, err = sphere.Flat(x, c.list)
		checkErr(t, "Flat", err, c.want)
		readBack(t, x).checkList(t, x, c.list)
	}
}

func TestFar(t *testing.T) {
	for _, rows := range [][][]int{nil, {{0, 2}, {1, 3}, {}}} {
		x := loaded(t, 3, 4, rows)
		for _, n := range append([]int{3, 4}, far...) {
			checkWrong(t, x, []int{n}, api.ErrRange)
			checkWrong(t, x, []int{0, 1, 2, n}, api.ErrRange)
			checkWrong(t, x, []int{n, 0, 0, n}, api.ErrRange)
			is, err := sphere.Legal(x, behind(n, 0), alone(2))
			check(t, "Legal", is, err, false, api.ErrRange)
			is, err = sphere.Legal(x, alone(2), behind(n, none))
			check(t, "Legal", is, err, false, api.ErrRange)
			if n == none {
				continue
			}
			is, err = sphere.Legal(x, behind(2, n), alone(2))
			check(t, "Legal", is, err, false, api.ErrStale)
			is, err = sphere.Legal(x, alone(2), behind(2, n))
			check(t, "Legal", is, err, false, api.ErrStale)
		}
	}
}

// SR2: the first corner's error is the one that is answered, as face.Same has
// it; one that is legal by its components is not told beside an error.
func TestLegalErrors(t *testing.T) {
	x := loaded(t, 3, 3, [][]int{{0, 2}, {1, 3}, {}})
	good, stale, gone := behind(0, 2), alone(0), behind(3, 0)
	for _, c := range []struct {
		a, b turn.Corner
		want api.Errno
	}{
		{stale, gone, api.ErrStale},
		{gone, stale, api.ErrRange},
		{good, gone, api.ErrRange},
		{good, stale, api.ErrStale},
		{gone, good, api.ErrRange},
		{stale, good, api.ErrStale},
		{gone, gone, api.ErrRange},
		{stale, stale, api.ErrStale},
		{alone(2), stale, api.ErrStale},
		{stale, alone(2), api.ErrStale},
		{alone(2), behind(2, 4), api.ErrStale},
		{behind(2, 0), alone(2), api.ErrStale},
		{behind(0, 4), alone(2), api.ErrStale},
		{behind(0, 1), behind(1, 1), api.ErrStale},
		{good, good, 0},
		{good, alone(2), 0},
	} {
		got, err := sphere.Legal(x, c.a, c.b)
		check(t, "Legal", got, err, c.want == 0, c.want)
		_, err = face.Same(x, c.a, c.b)
		checkErr(t, "Same", err, c.want)
	}
}

// A dart that was lifted is no corner, and its edge counts no more.
func TestLifted(t *testing.T) {
	x := loaded(t, 3, 3, [][]int{{0, 2}, {1, 3}, {}})
	checkErr(t, "Lift", x.Lift(0), 0)
	is, err := sphere.Legal(x, behind(0, 0), alone(2))
	check(t, "Legal", is, err, false, api.ErrStale)
	checkMap(t, x, []int{0, 1}, sphere.Counts{V: 2, E: 1, F: 1, C: 1}, true)
	checkErr(t, "Lift", x.Lift(1), 0)
	checkMap(t, x, []int{0, 1}, sphere.Counts{V: 2, F: 2, C: 2}, true)
	checkMap(t, x, nil, sphere.Counts{}, true)
	is, err = sphere.Legal(x, alone(0), alone(1))
	check(t, "Legal", is, err, true, 0)
}

// Nil Turns: ErrArg ahead of all.
func TestNil(t *testing.T) {
	for _, list := range [][]int{nil, {}, {0}, {0, 0}, {-1}, {math.MaxInt, math.MaxInt}} {
		checkWrong(t, nil, list, api.ErrArg)
	}
	for _, n := range append([]int{0, 1}, far...) {
		is, err := sphere.Legal(nil, behind(n, none), behind(n, n))
		check(t, "Legal", is, err, false, api.ErrArg)
	}
}

// Rule 3: asking changes nothing, neither the turns nor the list, nor what
// stands behind it.
func TestAsksOnly(t *testing.T) {
	x := loaded(t, 7, 7, [][]int{{0, 5, 8, 9}, {1, 2, 10}, {3, 4, 6}, {7}, {11}})
	before := readBack(t, x)
	for _, list := range [][]int{{6, 4, 2, 0, 1, 3}, {3, 2, 1, 0, 4, 4}, {4, 3, 2, 1, 0, 99}, {5, 3, 1}} {
		room := append(slices.Clone(list), -7, -8, -9)
		before.checkList(t, x, room[:len(list)])
		if !slices.Equal(room, append(slices.Clone(list), -7, -8, -9)) {
			t.Fatalf("asked, the list is %v", room)
		}
	}
	for _, a := range before.nearby() {
		for _, b := range before.nearby() {
			before.checkLegal(t, x, a, b)
		}
	}
	after := readBack(t, x)
	if !slices.EqualFunc(before.rows, after.rows, slices.Equal) || after.edges != before.edges {
		t.Fatalf("asked, the turns are %v, were %v", after.rows, before.rows)
	}
}

// Rule 4: what was asked of other turns, or ahead of a change, is not kept.
func TestAlone(t *testing.T) {
	one, two := loaded(t, 2, 2, [][]int{{0}, {1}}), made(t, 2, 2)
	list := []int{0, 1}
	for range 3 {
		checkMap(t, one, list, sphere.Counts{V: 2, E: 1, F: 1, C: 1}, true)
		checkMap(t, two, list, sphere.Counts{V: 2, F: 2, C: 2}, true)
		checkMap(t, two, list[:1], sphere.Counts{V: 1, F: 1, C: 1}, true)
	}
	list[0] = 5
	checkWrong(t, one, list, api.ErrRange)
	list[0] = 0
	checkErr(t, "Lay", one.Lay(1, behind(0, 0), behind(1, 1)), 0)
	checkMap(t, one, list, sphere.Counts{V: 2, E: 2, F: 2, C: 1}, true)
}

// The most vertices and edges.

// Nothing but vertices: a component and a face each.
func TestBareMany(t *testing.T) {
	x := made(t, most, most)
	checkMap(t, x, upTo(most), sphere.Counts{V: most, F: most, C: most}, true)
	checkMap(t, x, nil, sphere.Counts{}, true)
	checkMap(t, x, []int{most - 1}, sphere.Counts{V: 1, F: 1, C: 1}, true)
	checkWrong(t, x, []int{most}, api.ErrRange)
	checkWrong(t, x, append(upTo(most), most-1), api.ErrSame)
	checkErr(t, "Lay", x.Lay(most-1, alone(0), alone(most-1)), 0)
	checkMap(t, x, upTo(most), sphere.Counts{V: most, E: 1, F: most - 1, C: most - 1}, true)
	checkWrong(t, x, upTo(most-1), api.ErrStale)
	last := 2*most - 1
	is, err := sphere.Legal(x, behind(0, last-1), behind(most-1, last))
	check(t, "Legal", is, err, true, 0)
	is, err = sphere.Legal(x, alone(1), behind(most-1, last))
	check(t, "Legal", is, err, true, 0)
}

// A long cycle: one component, two faces; with two edges lifted it is two
// paths, which one edge joins again.
func TestCycleMany(t *testing.T) {
	rows := make([][]int, most)
	for v := range rows {
		rows[v] = []int{2 * v, (2*v + 2*most - 1) % (2 * most)}
	}
	x := loaded(t, most, most, rows)
	checkMap(t, x, upTo(most), sphere.Counts{V: most, E: most, F: 2, C: 1}, true)
	half := most / 2
	is, err := sphere.Legal(x, behind(0, 0), behind(half, 2*half))
	check(t, "Legal", is, err, true, 0)
	is, err = sphere.Legal(x, behind(0, 0), behind(half, 2*half-1))
	check(t, "Legal", is, err, false, 0)
	checkErr(t, "Lift", x.Lift(5), 0)
	checkErr(t, "Lift", x.Lift(half), 0)
	checkMap(t, x, upTo(most), sphere.Counts{V: most, E: most - 2, F: 2, C: 2}, true)
	is, err = sphere.Legal(x, behind(0, 0), behind(half, 2*half-1))
	check(t, "Legal", is, err, true, 0)
	is, err = sphere.Legal(x, behind(6, 12), behind(half, 2*half-1))
	check(t, "Legal", is, err, true, 0)
	checkErr(t, "Lay", x.Lay(5, behind(6, 12), behind(0, 0)), 0)
	checkMap(t, x, upTo(most), sphere.Counts{V: most, E: most - 1, F: 1, C: 1}, true)
}

// A loop each: each component is counted by itself. One that is not flat, of
// so many, is found.
func TestLoopsMany(t *testing.T) {
	rows := make([][]int, most)
	for v := range rows {
		rows[v] = []int{2 * v, 2*v + 1}
	}
	x := loaded(t, most, most, rows)
	checkMap(t, x, upTo(most), sphere.Counts{V: most, E: most, F: 2 * most, C: most}, true)
	is, err := sphere.Legal(x, behind(7, 14), behind(7, 15))
	check(t, "Legal", is, err, false, 0)
	is, err = sphere.Legal(x, behind(7, 14), behind(8, 17))
	check(t, "Legal", is, err, true, 0)
	checkErr(t, "Lift", x.Lift(most-1), 0)
	checkErr(t, "Lay", x.Lay(most-1, behind(7, 14), behind(7, 15)), 0)
	checkMap(t, x, upTo(most), sphere.Counts{V: most, E: most, F: 2*most - 2, C: most}, false)
}
