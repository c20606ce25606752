package face_test

import (
	"errors"
	"math"
	"math/rand"
	"slices"
	"testing"

	"plait/api"
	"plait/face"
	"plait/turn"
)

// most is how many vertices, and how many edges, there are at most.
const most = 1 << 20

// none is no dart, as the document has it.
const none = -1

// far are numbers that are no vertex and no dart, in Turns that are small; some
// of them are small ones, cut to 64 bits, or to 32.
var far = []int{-1, -2, -3, math.MinInt, math.MinInt + 1, math.MinInt32, -1 << 32, -1 << 62, 2 * most, 2*most + 1, math.MaxInt32, 1 << 31, math.MaxUint32, 1 << 32, 1<<32 + 1, 1 << 62, 1<<62 + 1, math.MaxInt - 1, math.MaxInt}

// checkErr fails unless err is the number want (0: nil), as errors.As finds it.
func checkErr(t *testing.T, what string, err error, want api.Errno) {
	t.Helper()
	if want == 0 {
		if err != nil {
			t.Fatalf("%s: error %v, want none", what, err)
		}
		return
	}
	var e api.Errno
	if !errors.As(err, &e) || e != want {
		t.Fatalf("%s: error %v, want %v", what, err, want)
	}
}

// check fails unless a call answered just that.
func check[T comparable](t *testing.T, what string, got T, err error, want T, wantErr api.Errno) {
	t.Helper()
	checkErr(t, what, err, wantErr)
	if got != want {
		t.Fatalf("%s: %v, want %v", what, got, want)
	}
}

// checkList fails unless a call answered just these darts.
func checkList(t *testing.T, what string, got []int, err error, want []int, wantErr api.Errno) {
	t.Helper()
	checkErr(t, what, err, wantErr)
	if !slices.Equal(got, want) {
		t.Fatalf("%s: %v, want %v", what, got, want)
	}
}

// checkFaces fails unless these are just the faces that are wanted.
func checkFaces(t *testing.T, got, want [][]int) {
	t.Helper()
	if !slices.EqualFunc(got, want, slices.Equal) {
		t.Fatalf("All: %v, want %v", got, want)
	}
}

func loaded(t *testing.T, vertices, edges int, round [][]int) *turn.Turns {
	t.Helper()
	x, err := turn.Load(vertices, edges, round)
	checkErr(t, "Load", err, 0)
	return x
}

// behind is the corner behind a dart, and alone that of a vertex without any.
func behind(v, d int) turn.Corner { return turn.Corner{Vertex: v, Behind: d} }
func alone(v int) turn.Corner     { return turn.Corner{Vertex: v, Behind: none} }

// plain are turns as plain lists: what stands round each vertex. They are gone
// over anew for each question.
type plain struct {
	edges int
	rows  [][]int
}

// after is the dart behind one round its vertex, or none, if it is not laid.
func (p *plain) after(d int) int {
	for _, row := range p.rows {
		if k := slices.Index(row, d); k >= 0 {
			return row[(k+1)%len(row)]
		}
	}
	return none
}

// other is a dart's twin.
func other(d int) int {
	if d%2 == 0 {
		return d + 1
	}
	return d - 1
}

// walk is the face of a dart that is laid, it first.
func (p *plain) walk(d int) []int {
	list := []int{d}
	for x := p.after(other(d)); x != d; x = p.after(other(x)) {
		list = append(list, x)
	}
	return list
}

// all are all faces, each from its least dart on.
func (p *plain) all() [][]int {
	var out [][]int
	for d := range 2 * p.edges {
		if p.after(d) == none {
			continue
		}
		if list := p.walk(d); slices.Min(list) == d {
			out = append(out, list)
		}
	}
	return out
}

// checkCorner is the error of a corner.
func (p *plain) checkCorner(c turn.Corner) api.Errno {
	if c.Vertex < 0 || c.Vertex >= len(p.rows) {
		return api.ErrRange
	}
	row := p.rows[c.Vertex]
	if slices.Contains(row, c.Behind) || c.Behind == none && len(row) == 0 {
		return 0
	}
	return api.ErrStale
}

// at is the dart whose face a corner that there is looks into.
func (p *plain) at(c turn.Corner) int {
	if c.Behind == none {
		return none
	}
	return p.after(c.Behind)
}

// same tells whether two corners that there are look into one face.
func (p *plain) same(a, b turn.Corner) bool {
	x, y := p.at(a), p.at(b)
	if x == none || y == none {
		return x == y && a.Vertex == b.Vertex
	}
	return slices.Contains(p.walk(x), y)
}

// checkDart fails unless what is asked of a dart is what the lists tell.
func (p *plain) checkDart(t *testing.T, x *turn.Turns, d int) {
	t.Helper()
	next, list, want := 0, []int(nil), api.ErrRange
	if d >= 0 && d < 2*p.edges {
		want = api.ErrStale
		if p.after(d) != none {
			next, list, want = p.after(other(d)), p.walk(d), 0
		}
	}
	got, err := face.Next(x, d)
	check(t, "Next", got, err, next, want)
	walk, err := face.Walk(x, d)
	checkList(t, "Walk", walk, err, list, want)
}

// checkSame fails unless what is asked of two corners is what the lists tell.
func (p *plain) checkSame(t *testing.T, x *turn.Turns, a, b turn.Corner) {
	t.Helper()
	want, wantErr := false, p.checkCorner(a)
	if wantErr == 0 {
		wantErr = p.checkCorner(b)
	}
	if wantErr == 0 {
		want = p.same(a, b)
	}
	got, err := face.Same(x, a, b)
	check(t, "Same", got, err, want, wantErr)
}

// corners are all that there are, and those close by that there are not.
func (p *plain) corners() []turn.Corner {
	var out []turn.Corner
	for v := -1; v <= len(p.rows); v++ {
		for d := -2; d <= 2*p.edges; d++ {
			out = append(out, behind(v, d))
		}
	}
	return out
}

// checkAll fails unless all is as the lists tell it.
func (p *plain) checkAll(t *testing.T, x *turn.Turns) {
	t.Helper()
	checkFaces(t, face.All(x), p.all())
	for d := -2; d <= 2*p.edges+1; d++ {
		p.checkDart(t, x, d)
	}
	corners := p.corners()
	for _, a := range corners {
		want, wantErr := 0, p.checkCorner(a)
		if wantErr == 0 {
			want = p.at(a)
		}
		got, err := face.At(x, a)
		check(t, "At", got, err, want, wantErr)
		for _, b := range corners {
			p.checkSame(t, x, a, b)
		}
	}
	checkFaces(t, face.All(x), p.all())
}

// readBack are the turns as plain lists.
func readBack(t *testing.T, x *turn.Turns) *plain {
	t.Helper()
	vertices, edges := x.Sizes()
	p := &plain{edges: edges}
	for v := range vertices {
		row, err := x.Round(v)
		checkErr(t, "Round", err, 0)
		p.rows = append(p.rows, row)
	}
	return p
}

// The chapter's examples.
func TestExample(t *testing.T) {
	x, err := turn.New(2, 1)
	checkErr(t, "New", err, 0)
	checkErr(t, "Lay", x.Lay(0, alone(0), alone(1)), 0)
	checkFaces(t, face.All(x), [][]int{{0, 1}})
	checkErr(t, "Lift", x.Lift(0), 0)
	checkErr(t, "Lay", x.Lay(0, alone(0), alone(0)), 0)
	checkFaces(t, face.All(x), [][]int{{0}, {1}})
}

// FA1, FA2: some answers written out, so that the lists above are held to
// something.
func TestWrittenOut(t *testing.T) {
	for _, c := range []struct {
		what  string
		rows  [][]int
		faces [][]int
	}{
		{"nothing", [][]int{{}, {}}, nil},
		{"one edge", [][]int{{0}, {1}}, [][]int{{0, 1}}},
		{"a path", [][]int{{0}, {1, 2}, {3}}, [][]int{{0, 2, 3, 1}}},
		{"a star", [][]int{{0, 2, 4}, {1}, {3}, {5}}, [][]int{{0, 1, 2, 3, 4, 5}}},
		{"a star turned round", [][]int{{4, 2, 0}, {1}, {3}, {5}}, [][]int{{0, 1, 4, 5, 2, 3}}},
		{"a triangle", [][]int{{0, 5}, {1, 2}, {3, 4}}, [][]int{{0, 2, 4}, {1, 5, 3}}},
		{"two edges side by side", [][]int{{0, 2}, {1, 3}}, [][]int{{0, 3}, {1, 2}}},
		{"a loop", [][]int{{0, 1}}, [][]int{{0}, {1}}},
		{"two loops side by side", [][]int{{0, 1, 2, 3}}, [][]int{{0, 2}, {1}, {3}}},
		{"two loops that cross", [][]int{{0, 2, 1, 3}}, [][]int{{0, 3, 1, 2}}},
		{"a loop round an edge", [][]int{{0, 2, 1}, {3}}, [][]int{{0}, {1, 2, 3}}},
		{"two parts", [][]int{{2}, {0}, {3}, {1}}, [][]int{{0, 1}, {2, 3}}},
		{"darts between", [][]int{{6}, {11, 10}, {7}}, [][]int{{6, 7}, {10}, {11}}},
	} {
		t.Run(c.what, func(t *testing.T) {
			x := loaded(t, 5, 7, c.rows)
			checkFaces(t, face.All(x), c.faces)
			for _, list := range c.faces {
				for k, d := range list {
					next, err := face.Next(x, d)
					check(t, "Next", next, err, list[(k+1)%len(list)], 0)
					walk, err := face.Walk(x, d)
					checkList(t, "Walk", walk, err, slices.Concat(list[k:], list[:k]), 0)
				}
			}
			readBack(t, x).checkAll(t, x)
		})
	}
}

// FA2: which corners look into which face, written out.
func TestCornersWrittenOut(t *testing.T) {
	// A triangle of which the vertex 2 has an edge to the vertex 3, within the
	// face 1, 5, 3; 4 and 5 have no darts.
	x := loaded(t, 6, 4, [][]int{{0, 5}, {1, 2}, {3, 4, 6}, {7}})
	checkFaces(t, face.All(x), [][]int{{0, 2, 4}, {1, 5, 6, 7, 3}})
	inner := []turn.Corner{behind(0, 5), behind(1, 1), behind(2, 3)}
	outer := []turn.Corner{behind(0, 0), behind(1, 2), behind(2, 4), behind(2, 6), behind(3, 7)}
	single := [][]turn.Corner{inner, outer, {alone(4)}, {alone(5)}}
	for i, list := range single {
		for j, others := range single {
			for _, a := range list {
				for _, b := range others {
					got, err := face.Same(x, a, b)
					check(t, "Same", got, err, i == j, 0)
				}
			}
		}
	}
	for _, c := range []struct {
		c    turn.Corner
		want int
	}{
		{behind(0, 5), 0}, {behind(0, 0), 5}, {behind(1, 1), 2}, {behind(1, 2), 1},
		{behind(2, 3), 4}, {behind(2, 4), 6}, {behind(2, 6), 3}, {behind(3, 7), 7},
		{alone(4), none}, {alone(5), none},
	} {
		got, err := face.At(x, c.c)
		check(t, "At", got, err, c.want, 0)
	}
}

// FA1 to FA3: all turns of few vertices and edges, on spheres and not.
func TestEachSmall(t *testing.T) {
	var grow func(x *turn.Turns, e int)
	grow = func(x *turn.Turns, e int) {
		p := readBack(t, x)
		p.checkAll(t, x)
		if e == p.edges {
			return
		}
		for _, a := range p.corners() {
			for _, b := range p.corners() {
				if p.checkCorner(a) != 0 || p.checkCorner(b) != 0 {
					continue
				}
				checkErr(t, "Lay", x.Lay(e, a, b), 0)
				grow(x, e+1)
				checkErr(t, "Lift", x.Lift(e), 0)
			}
		}
	}
	for _, sizes := range [][2]int{{1, 3}, {2, 2}, {3, 2}} {
		x, err := turn.New(sizes[0], sizes[1])
		checkErr(t, "New", err, 0)
		grow(x, 0)
	}
}

// somewhere is a corner that there is.
func (p *plain) somewhere(r *rand.Rand) turn.Corner {
	v := r.Intn(len(p.rows))
	if len(p.rows[v]) == 0 {
		return alone(v)
	}
	return behind(v, p.rows[v][r.Intn(len(p.rows[v]))])
}

// FA1 to FA3: turns that change, in long runs.
func TestLongRun(t *testing.T) {
	r := rand.New(rand.NewSource(11))
	for range 20 {
		x, err := turn.New(1+r.Intn(8), 1+r.Intn(12))
		checkErr(t, "New", err, 0)
		_, edges := x.Sizes()
		for range 60 {
			e, p := r.Intn(edges), readBack(t, x)
			if x.Has(e) && r.Intn(3) > 0 {
				checkErr(t, "Lift", x.Lift(e), 0)
			} else if !x.Has(e) {
				checkErr(t, "Lay", x.Lay(e, p.somewhere(r), p.somewhere(r)), 0)
			}
			p = readBack(t, x)
			checkFaces(t, face.All(x), p.all())
			for d := range 2 * edges {
				p.checkDart(t, x, d)
			}
			for range 20 {
				p.checkSame(t, x, p.somewhere(r), p.somewhere(r))
			}
		}
		readBack(t, x).checkAll(t, x)
	}
}

// FA3: each dart that is laid is of one face, whichever it is asked from; those
// that are not laid are of none.
func TestOneFace(t *testing.T) {
	r := rand.New(rand.NewSource(3))
	for range 50 {
		edges := 1 + r.Intn(40)
		all := r.Perm(2 * edges)
		k := r.Intn(len(all) + 1)
		x := loaded(t, 3, edges+2, [][]int{all[:k], nil, all[k:]})
		times := make([]int, 2*edges+4)
		for _, list := range face.All(x) {
			for _, d := range list {
				times[d]++
			}
		}
		for d, n := range times {
			if (n == 1) != (d < 2*edges) || n > 1 {
				t.Fatalf("dart %d is %d times in all faces", d, n)
			}
		}
	}
}

// Wrong arguments.

func TestFar(t *testing.T) {
	for _, rows := range [][][]int{nil, {{0, 2}, {1, 3}, {}}} {
		x := loaded(t, 3, 4, rows)
		for _, n := range append([]int{8, 9}, far...) {
			got, err := face.Next(x, n)
			check(t, "Next", got, err, 0, api.ErrRange)
			list, err := face.Walk(x, n)
			checkList(t, "Walk", list, err, nil, api.ErrRange)
			got, err = face.At(x, behind(n, none))
			check(t, "At", got, err, 0, api.ErrRange)
			got, err = face.At(x, behind(n, n))
			check(t, "At", got, err, 0, api.ErrRange)
			is, err := face.Same(x, behind(n, 0), alone(2))
			check(t, "Same", is, err, false, api.ErrRange)
			is, err = face.Same(x, alone(2), behind(n, 0))
			check(t, "Same", is, err, false, api.ErrRange)
			if n == none {
				continue
			}
			got, err = face.At(x, behind(2, n))
			check(t, "At", got, err, 0, api.ErrStale)
			is, err = face.Same(x, behind(2, n), behind(2, n))
			check(t, "Same", is, err, false, api.ErrStale)
		}
	}
}

// FA1: darts that are not laid, or not any more.
func TestStale(t *testing.T) {
	x := loaded(t, 3, 4, [][]int{{0, 2}, {1, 3}, {}})
	stale := []int{4, 5, 6, 7}
	for range 2 {
		for _, d := range stale {
			got, err := face.Next(x, d)
			check(t, "Next", got, err, 0, api.ErrStale)
			list, err := face.Walk(x, d)
			checkList(t, "Walk", list, err, nil, api.ErrStale)
		}
		if x.Has(0) {
			checkErr(t, "Lift", x.Lift(0), 0)
			stale = append(stale, 0, 1)
		}
	}
	checkFaces(t, face.All(x), [][]int{{2, 3}})
}

// FA2: the first corner's error is the one that is answered.
func TestFirstError(t *testing.T) {
	x := loaded(t, 3, 3, [][]int{{0, 2}, {1, 3}, {}})
	good, stale, gone := behind(0, 2), alone(0), behind(3, 0)
	for _, c := range []struct {
		a, b turn.Corner
		want api.Errno
	}{
		{stale, gone, api.ErrStale},
		{gone, stale, api.ErrRange},
		{good, gone, api.ErrRange},
		{good, stale, api.ErrStale},
		{gone, good, api.ErrRange},
		{stale, good, api.ErrStale},
		{gone, gone, api.ErrRange},
		{stale, stale, api.ErrStale},
		{alone(2), behind(2, 4), api.ErrStale},
		{behind(2, 0), alone(2), api.ErrStale},
		{good, good, 0},
	} {
		got, err := face.Same(x, c.a, c.b)
		check(t, "Same", got, err, c.want == 0, c.want)
	}
}

// Nil Turns: ErrArg ahead of all, and no faces.
func TestNil(t *testing.T) {
	for _, n := range append([]int{0, 1}, far...) {
		got, err := face.Next(nil, n)
		check(t, "Next", got, err, 0, api.ErrArg)
		list, err := face.Walk(nil, n)
		checkList(t, "Walk", list, err, nil, api.ErrArg)
		got, err = face.At(nil, behind(n, none))
		check(t, "At", got, err, 0, api.ErrArg)
		got, err = face.At(nil, behind(n, n))
		check(t, "At", got, err, 0, api.ErrArg)
		is, err := face.Same(nil, behind(n, none), behind(n, none))
		check(t, "Same", is, err, false, api.ErrArg)
	}
	checkFaces(t, face.All(nil), nil)
}

// Answers are new memory.

// spoil writes into a list, and into its spare room.
func spoil(list []int) {
	for i := range list[:cap(list)] {
		list[:cap(list)][i] = -9
	}
}

func spoilt(list []int) bool {
	return !slices.ContainsFunc(list[:cap(list)], func(d int) bool { return d != -9 })
}

func TestAnswersAreNew(t *testing.T) {
	p := &plain{edges: 6, rows: [][]int{{0, 5, 8, 9}, {1, 2, 10}, {3, 4, 6}, {7}, {11}}}
	x := loaded(t, 5, 6, p.rows)
	for d := range 2 * p.edges {
		one, err := face.Walk(x, d)
		checkList(t, "Walk", one, err, p.walk(d), 0)
		two, err := face.Walk(x, d)
		checkErr(t, "Walk", err, 0)
		spoil(one)
		checkList(t, "another answer", two, nil, p.walk(d), 0)
	}
	one, two, want := face.All(x), face.All(x), p.all()
	if len(want) < 3 {
		t.Fatalf("too few faces to tell anything: %v", want)
	}
	for i := range one {
		spoil(one[i])
		if !spoilt(one[i]) {
			t.Fatal("a list could not be written into")
		}
		for j := i + 1; j < len(one); j++ {
			checkList(t, "another list of one answer", one[j], nil, want[j], 0)
		}
	}
	checkFaces(t, two, want)
	clear(one[:cap(one)])
	checkFaces(t, two, want)
	p.checkAll(t, x)
	checkErr(t, "Lift", x.Lift(0), 0)
	checkFaces(t, two, want)
}

// Asking changes nothing.
func TestAsksOnly(t *testing.T) {
	rows := [][]int{{0, 5, 8, 9}, {1, 2, 10}, {3, 4, 6}, {7}, {11}}
	x := loaded(t, 6, 7, rows)
	before := readBack(t, x)
	before.checkAll(t, x)
	after := readBack(t, x)
	if !slices.EqualFunc(before.rows, after.rows, slices.Equal) || after.edges != before.edges {
		t.Fatalf("asked, the turns are %v, were %v", after.rows, before.rows)
	}
}

// The most vertices and edges.

// A long cycle has two faces, of all its edges each.
func TestCycleMany(t *testing.T) {
	rows := make([][]int, most)
	for v := range rows {
		rows[v] = []int{2 * v, (2*v + 2*most - 1) % (2 * most)}
	}
	x := loaded(t, most, most, rows)
	l := face.All(x)
	if len(l) != 2 || len(l[0]) != most || len(l[1]) != most {
		t.Fatalf("All: %d faces", len(l))
	}
	for k := range most {
		if l[0][k] != 2*k || l[1][k] != 2*((most-k)%most)+1 {
			t.Fatalf("All: at %d %d, and %d", k, l[0][k], l[1][k])
		}
	}
	walk, err := face.Walk(x, 2*most-2)
	checkErr(t, "Walk", err, 0)
	if len(walk) != most || walk[1] != 0 || walk[most-1] != 2*most-4 {
		t.Fatalf("Walk: %d darts", len(walk))
	}
	last, half := most-1, most/2
	for _, c := range []struct {
		a, b turn.Corner
		want bool
	}{
		{behind(0, 0), behind(half, 2*half), true},
		{behind(0, 2*most-1), behind(last, 2*last-1), true},
		{behind(0, 0), behind(half, 2*half-1), false},
		{behind(last, 2*last-1), behind(last, 2*last), false},
	} {
		got, err := face.Same(x, c.a, c.b)
		check(t, "Same", got, err, c.want, 0)
	}
}

// A loop each: as many faces as darts. Next, At and Same of small faces need but
// a few steps: more would take hours.
func TestLoopsMany(t *testing.T) {
	rows := make([][]int, most)
	for v := range rows {
		rows[v] = []int{2 * v, 2*v + 1}
	}
	x := loaded(t, most, most, rows)
	l := face.All(x)
	if len(l) != 2*most {
		t.Fatalf("All: %d faces, want %d", len(l), 2*most)
	}
	for d, list := range l {
		if len(list) != 1 || list[0] != d {
			t.Fatalf("All: the face at %d is %v", d, list)
		}
		next, err := face.Next(x, d)
		check(t, "Next", next, err, d, 0)
		at, err := face.At(x, behind(d/2, d))
		check(t, "At", at, err, other(d), 0)
		is, err := face.Same(x, behind(d/2, d), behind(0, 1))
		check(t, "Same", is, err, d == 1, 0)
	}
}

// The last vertex and dart, of Turns with much room.
func TestLast(t *testing.T) {
	x, err := turn.New(most, most)
	checkErr(t, "New", err, 0)
	checkFaces(t, face.All(x), nil)
	last := 2*most - 1
	got, err := face.Next(x, last)
	check(t, "Next", got, err, 0, api.ErrStale)
	got, err = face.Next(x, last+1)
	check(t, "Next", got, err, 0, api.ErrRange)
	got, err = face.At(x, alone(most-1))
	check(t, "At", got, err, none, 0)
	checkErr(t, "Lay", x.Lay(most-1, alone(0), alone(most-1)), 0)
	checkFaces(t, face.All(x), [][]int{{last - 1, last}})
	got, err = face.Next(x, last)
	check(t, "Next", got, err, last-1, 0)
	got, err = face.At(x, behind(most-1, last))
	check(t, "At", got, err, last, 0)
	is, err := face.Same(x, behind(most-1, last), behind(0, last-1))
	check(t, "Same", is, err, true, 0)
	is, err = face.Same(x, alone(most-2), behind(0, last-1))
	check(t, "Same", is, err, false, 0)
	is, err = face.Same(x, alone(most-2), alone(most-2))
	check(t, "Same", is, err, true, 0)
	is, err = face.Same(x, alone(most-2), alone(1))
	check(t, "Same", is, err, false, 0)
}
