package turn_test

import (
	"errors"
	"math"
	"math/rand"
	"slices"
	"testing"

	"plait/api"
	"plait/turn"
)

// most is how many vertices, and how many edges, there are at most.
const most = 1 << 20

// none is no dart, as the document has it.
const none = -1

// far are numbers that are no vertex, no edge and no dart; twice some of them is
// a small number, cut to 64 bits, or to 32.
var far = []int{-1, -2, -3, math.MinInt, math.MinInt + 1, math.MinInt32, -1 << 32, -1 << 62, 2 * most, 2*most + 1, math.MaxInt32, 1 << 31, math.MaxUint32, 1 << 32, 1<<32 + 1, 1 << 62, 1<<62 + 1, math.MaxInt - 1, math.MaxInt}

// wrongMany are numbers of vertices, and of edges, that may not be.
var wrongMany = []int{0, -1, -2, -most, math.MinInt32, -1 << 32, math.MinInt, most + 1, most + 2, 2 * most, math.MaxInt32, 1 << 32, 1<<32 + 1, math.MaxInt}

// checkErr fails unless err is the number want (0: nil), as errors.As finds it.
func checkErr(t *testing.T, what string, err error, want api.Errno) {
	t.Helper()
	if want == 0 {
		if err != nil {
			t.Fatalf("%s: error %v, want none", what, err)
		}
		return
	}
	var e api.Errno
	if !errors.As(err, &e) || e != want {
		t.Fatalf("%s: error %v, want %v", what, err, want)
	}
}

// check fails unless a call answered just that.
func check[T comparable](t *testing.T, what string, got T, err error, want T, wantErr api.Errno) {
	t.Helper()
	checkErr(t, what, err, wantErr)
	if got != want {
		t.Fatalf("%s: %v, want %v", what, got, want)
	}
}

// checkList fails unless a call answered just these darts.
func checkList(t *testing.T, what string, got []int, err error, want []int, wantErr api.Errno) {
	t.Helper()
	checkErr(t, what, err, wantErr)
	if !slices.Equal(got, want) {
		t.Fatalf("%s: %v, want %v", what, got, want)
	}
}

func made(t *testing.T, vertices, edges int) *turn.Turns {
	t.Helper()
	x, err := turn.New(vertices, edges)
	checkErr(t, "New", err, 0)
	if x == nil {
		t.Fatalf("New(%d, %d): nil beside no error", vertices, edges)
	}
	return x
}

func loaded(t *testing.T, vertices, edges int, round [][]int) *turn.Turns {
	t.Helper()
	x, err := turn.Load(vertices, edges, round)
	checkErr(t, "Load", err, 0)
	if x == nil {
		t.Fatalf("Load(%d, %d, %v): nil beside no error", vertices, edges, round)
	}
	return x
}

// behind is the corner behind a dart, and alone that of a vertex without any.
func behind(v, d int) turn.Corner { return turn.Corner{Vertex: v, Behind: d} }
func alone(v int) turn.Corner     { return turn.Corner{Vertex: v, Behind: none} }

// plain are turns as plain lists: what stands round each vertex, from the least
// dart on. They are gone over anew for each question.
type plain struct {
	edges int
	rows  [][]int
}

func newPlain(vertices, edges int) *plain {
	return &plain{edges: edges, rows: make([][]int, vertices)}
}

func (p *plain) clone() *plain {
	out := newPlain(len(p.rows), p.edges)
	for v, row := range p.rows {
		out.rows[v] = slices.Clone(row)
	}
	return out
}

// find is at which vertex a dart stands, and at which place there; or none.
func (p *plain) find(d int) (int, int) {
	for v, row := range p.rows {
		if k := slices.Index(row, d); k >= 0 {
			return v, k
		}
	}
	return none, none
}

func (p *plain) has(e int) bool {
	v, _ := p.find(2 * e)
	return e >= 0 && e < p.edges && v != none
}

func (p *plain) check(c turn.Corner) api.Errno {
	if c.Vertex < 0 || c.Vertex >= len(p.rows) {
		return api.ErrRange
	}
	row := p.rows[c.Vertex]
	if slices.Contains(row, c.Behind) || c.Behind == none && len(row) == 0 {
		return 0
	}
	return api.ErrStale
}

// stand lays a dart behind another one, or ahead of all, and turns the row so
// that its least dart is the first.
func (p *plain) stand(d int, c turn.Corner) {
	row := p.rows[c.Vertex]
	row = slices.Insert(row, slices.Index(row, c.Behind)+1, d)
	k := slices.Index(row, slices.Min(row))
	p.rows[c.Vertex] = slices.Concat(row[k:], row[:k])
}

func (p *plain) lay(e int, a, b turn.Corner) api.Errno {
	if e < 0 || e >= p.edges {
		return api.ErrRange
	}
	if p.has(e) {
		return api.ErrSame
	}
	if err := p.check(a); err != 0 {
		return err
	}
	if err := p.check(b); err != 0 {
		return err
	}
	p.stand(2*e, a)
	if b.Behind == none && slices.Contains(p.rows[b.Vertex], 2*e) {
		b.Behind = 2 * e
	}
	p.stand(2*e+1, b)
	return 0
}

func (p *plain) lift(e int) api.Errno {
	if e < 0 || e >= p.edges {
		return api.ErrRange
	}
	if !p.has(e) {
		return api.ErrStale
	}
	for v, row := range p.rows {
		var left []int
		for k := range row {
			if row[k]/2 != e {
				left = append(left, row[k])
			}
		}
		p.rows[v] = left
		if len(left) > 0 {
			k := slices.Index(left, slices.Min(left))
			p.rows[v] = slices.Concat(left[k:], left[:k])
		}
	}
	return 0
}

// checkDart fails unless what is asked of a dart is what the lists tell.
func (p *plain) checkDart(t *testing.T, x *turn.Turns, d int) {
	t.Helper()
	next, prev, origin, want := 0, 0, 0, api.ErrRange
	if d >= 0 && d < 2*p.edges {
		want = api.ErrStale
	}
	if v, k := p.find(d); v != none {
		row := p.rows[v]
		next, prev, origin, want = row[(k+1)%len(row)], row[(k+len(row)-1)%len(row)], v, 0
	}
	for _, c := range []struct {
		what string
		ask  func(int) (int, error)
		want int
	}{
		{"Next", x.Next, next},
		{"Prev", x.Prev, prev},
		{"Origin", x.Origin, origin},
	} {
		got, err := c.ask(d)
		check(t, c.what, got, err, c.want, want)
	}
}

// checkVertex fails unless what is asked of a vertex is what the lists tell.
func (p *plain) checkVertex(t *testing.T, x *turn.Turns, v int) {
	t.Helper()
	var row []int
	want := api.ErrRange
	if v >= 0 && v < len(p.rows) {
		row, want = p.rows[v], 0
	}
	degree, err := x.Degree(v)
	check(t, "Degree", degree, err, len(row), want)
	list, err := x.Round(v)
	checkList(t, "Round", list, err, row, want)
}

// checkAll fails unless all is as the lists tell it.
func (p *plain) checkAll(t *testing.T, x *turn.Turns) {
	t.Helper()
	vertices, edges := x.Sizes()
	if vertices != len(p.rows) || edges != p.edges {
		t.Fatalf("Sizes: %d, %d, want %d, %d", vertices, edges, len(p.rows), p.edges)
	}
	for v := -1; v <= len(p.rows); v++ {
		p.checkVertex(t, x, v)
	}
	for d := -2; d <= 2*p.edges+1; d++ {
		p.checkDart(t, x, d)
	}
	for e := -1; e <= p.edges; e++ {
		if got := x.Has(e); got != p.has(e) {
			t.Fatalf("Has(%d): %v, want %v", e, got, p.has(e))
		}
	}
}

// corners are all that there are, and those close by that there are not.
func (p *plain) corners() []turn.Corner {
	var out []turn.Corner
	for v := -1; v <= len(p.rows); v++ {
		for d := -2; d <= 2*p.edges; d++ {
			out = append(out, behind(v, d))
		}
	}
	return out
}

// The chapter's example, and what else can be seen of it.
func TestExample(t *testing.T) {
	if turn.None != none {
		t.Fatalf("None: %d, want %d", turn.None, none)
	}
	x := made(t, 1, 1)
	checkErr(t, "Lay", x.Lay(0, alone(0), alone(0)), 0)
	list, err := x.Round(0)
	checkList(t, "Round", list, err, []int{0, 1}, 0)
	(&plain{edges: 1, rows: [][]int{{0, 1}}}).checkAll(t, x)
}

// Some answers written out, so that the lists above are held to something.
func TestWrittenOut(t *testing.T) {
	x := made(t, 3, 4)
	for _, c := range []struct {
		e    int
		a, b turn.Corner
		rows [][]int
	}{
		{1, alone(0), alone(2), [][]int{{2}, {}, {3}}},
		{0, behind(0, 2), behind(2, 3), [][]int{{0, 2}, {}, {1, 3}}},
		{3, behind(2, 1), behind(2, 1), [][]int{{0, 2}, {}, {1, 7, 6, 3}}},
		{2, behind(0, 0), behind(0, 2), [][]int{{0, 4, 2, 5}, {}, {1, 7, 6, 3}}},
	} {
		checkErr(t, "Lay", x.Lay(c.e, c.a, c.b), 0)
		(&plain{edges: 4, rows: c.rows}).checkAll(t, x)
	}
	for _, c := range []struct{ d, next, prev, origin int }{
		{0, 4, 5, 0}, {4, 2, 0, 0}, {2, 5, 4, 0}, {5, 0, 2, 0},
		{1, 7, 3, 2}, {7, 6, 1, 2}, {6, 3, 7, 2}, {3, 1, 6, 2},
	} {
		got, err := x.Next(c.d)
		check(t, "Next", got, err, c.next, 0)
		got, err = x.Prev(c.d)
		check(t, "Prev", got, err, c.prev, 0)
		got, err = x.Origin(c.d)
		check(t, "Origin", got, err, c.origin, 0)
	}
	for _, c := range []struct {
		e    int
		rows [][]int
	}{
		{0, [][]int{{2, 5, 4}, {}, {3, 7, 6}}},
		{3, [][]int{{2, 5, 4}, {}, {3}}},
		{1, [][]int{{4, 5}, {}, {}}},
		{2, [][]int{{}, {}, {}}},
	} {
		checkErr(t, "Lift", x.Lift(c.e), 0)
		(&plain{edges: 4, rows: c.rows}).checkAll(t, x)
	}
}

// TR1: New.

func TestNew(t *testing.T) {
	for _, vertices := range []int{1, 2, 7, 64} {
		for _, edges := range []int{1, 2, 9, 63} {
			newPlain(vertices, edges).checkAll(t, made(t, vertices, edges))
		}
	}
}

func TestNewWrong(t *testing.T) {
	for _, n := range wrongMany {
		for _, other := range append([]int{1, 5, most}, wrongMany...) {
			for _, sizes := range [][2]int{{n, other}, {other, n}} {
				x, err := turn.New(sizes[0], sizes[1])
				checkErr(t, "New", err, api.ErrArg)
				if x != nil {
					t.Fatalf("New(%d, %d): not nil beside an error", sizes[0], sizes[1])
				}
			}
		}
	}
}

// TR1: Lay, of a loop and between two vertices, at corners of vertices with
// darts and without.
func TestLay(t *testing.T) {
	for _, c := range []struct {
		what string
		a, b turn.Corner
		rows [][]int
	}{
		{"a loop at a vertex without darts", alone(2), alone(2), [][]int{{0, 2, 4}, {1, 3, 5}, {6, 7}, {}}},
		{"between two without darts", alone(3), alone(2), [][]int{{0, 2, 4}, {1, 3, 5}, {7}, {6}}},
		{"from one without darts", alone(2), behind(1, 3), [][]int{{0, 2, 4}, {1, 3, 7, 5}, {6}, {}}},
		{"to one without darts", behind(0, 4), alone(3), [][]int{{0, 2, 4, 6}, {1, 3, 5}, {}, {7}}},
		{"between two with darts", behind(0, 0), behind(1, 5), [][]int{{0, 6, 2, 4}, {1, 3, 5, 7}, {}, {}}},
		{"a loop between two corners", behind(0, 0), behind(0, 2), [][]int{{0, 6, 2, 7, 4}, {1, 3, 5}, {}, {}}},
		{"the other way", behind(0, 2), behind(0, 0), [][]int{{0, 7, 2, 6, 4}, {1, 3, 5}, {}, {}}},
		{"a loop in one corner", behind(1, 5), behind(1, 5), [][]int{{0, 2, 4}, {1, 3, 5, 7, 6}, {}, {}}},
	} {
		t.Run(c.what, func(t *testing.T) {
			x := loaded(t, 4, 5, [][]int{{0, 2, 4}, {1, 3, 5}})
			checkErr(t, "Lay", x.Lay(3, c.a, c.b), 0)
			(&plain{edges: 5, rows: c.rows}).checkAll(t, x)
		})
	}
}

// TR1: the first error is the one that is answered, and nothing is changed by a
// call that answers one.
func TestFirstError(t *testing.T) {
	rows := [][]int{{0, 2}, {1, 3}, {}}
	good, stale, gone := behind(0, 2), behind(0, none), behind(3, 0)
	for _, c := range []struct {
		e    int
		a, b turn.Corner
		want api.Errno
	}{
		{-1, good, good, api.ErrRange},
		{3, stale, gone, api.ErrRange},
		{0, good, good, api.ErrSame},
		{1, stale, gone, api.ErrSame},
		{0, gone, stale, api.ErrSame},
		{2, stale, gone, api.ErrStale},
		{2, gone, stale, api.ErrRange},
		{2, good, gone, api.ErrRange},
		{2, good, stale, api.ErrStale},
		{2, gone, good, api.ErrRange},
		{2, stale, good, api.ErrStale},
		{2, alone(2), behind(2, 4), api.ErrStale},
		{2, behind(2, 4), alone(2), api.ErrStale},
		{2, behind(0, 1), good, api.ErrStale},
		{2, good, behind(2, 0), api.ErrStale},
		{2, behind(0, 5), good, api.ErrStale},
		{2, behind(0, 6), good, api.ErrStale},
		{2, behind(2, -2), good, api.ErrStale},
		{2, behind(-1, none), good, api.ErrRange},
	} {
		x := loaded(t, 3, 3, rows)
		checkErr(t, "Lay", x.Lay(c.e, c.a, c.b), c.want)
		(&plain{edges: 3, rows: rows}).checkAll(t, x)
	}
}

// TR1, TR2: numbers that are far off, of Turns with darts and without any.
func TestFar(t *testing.T) {
	rows := [][]int{{0, 2}, {1, 3}, {}}
	for _, p := range []*plain{newPlain(3, 4), {edges: 4, rows: rows}} {
		x := loaded(t, 3, 4, p.rows)
		for _, n := range append([]int{8, 9}, far...) {
			checkErr(t, "Check", x.Check(behind(n, none)), api.ErrRange)
			checkErr(t, "Check", x.Check(behind(n, n)), api.ErrRange)
			checkErr(t, "Lay", x.Lay(n, alone(2), alone(2)), api.ErrRange)
			checkErr(t, "Lay", x.Lay(3, behind(n, 0), alone(2)), api.ErrRange)
			checkErr(t, "Lay", x.Lay(3, alone(2), behind(n, 0)), api.ErrRange)
			if n != none {
				checkErr(t, "Check", x.Check(behind(2, n)), api.ErrStale)
				checkErr(t, "Lay", x.Lay(3, behind(2, n), alone(2)), api.ErrStale)
				checkErr(t, "Lay", x.Lay(3, alone(2), behind(2, n)), api.ErrStale)
			}
			checkErr(t, "Lift", x.Lift(n), api.ErrRange)
			if x.Has(n) {
				t.Fatalf("Has(%d): true", n)
			}
			p.checkDart(t, x, n)
			p.checkVertex(t, x, n)
		}
		p.checkAll(t, x)
	}
}

// A nil Turns: ErrArg, and nothing.
func TestNil(t *testing.T) {
	var x *turn.Turns
	for _, n := range append([]int{0, 1}, far...) {
		checkErr(t, "Check", x.Check(behind(n, n)), api.ErrArg)
		checkErr(t, "Check", x.Check(alone(n)), api.ErrArg)
		checkErr(t, "Lay", x.Lay(n, alone(n), alone(n)), api.ErrArg)
		checkErr(t, "Lift", x.Lift(n), api.ErrArg)
		if x.Has(n) {
			t.Fatal("Has: true")
		}
		for _, ask := range []func(int) (int, error){x.Next, x.Prev, x.Origin, x.Degree} {
			got, err := ask(n)
			check(t, "a question", got, err, 0, api.ErrArg)
		}
		list, err := x.Round(n)
		checkList(t, "Round", list, err, nil, api.ErrArg)
	}
	if vertices, edges := x.Sizes(); vertices != 0 || edges != 0 {
		t.Fatalf("Sizes: %d, %d", vertices, edges)
	}
}

// eachState goes over all turns that edges laid one after another lead to.
func eachState(vertices, edges int) func(yield func(*plain) bool) {
	return func(yield func(*plain) bool) {
		seen := map[string]bool{}
		work := []*plain{newPlain(vertices, edges)}
		for len(work) > 0 {
			p := work[len(work)-1]
			work = work[:len(work)-1]
			if key := p.key(); seen[key] {
				continue
			} else {
				seen[key] = true
			}
			if !yield(p.clone()) {
				return
			}
			for e := range edges {
				for _, a := range p.corners() {
					for _, b := range p.corners() {
						if q := p.clone(); q.lay(e, a, b) == 0 {
							work = append(work, q)
						}
					}
				}
			}
		}
	}
}

// key tells turns from others.
func (p *plain) key() string {
	var out []byte
	for _, row := range p.rows {
		for _, d := range row {
			out = append(out, byte(d))
		}
		out = append(out, 255)
	}
	return string(out)
}

// TR1 to TR4: all turns of few vertices and edges; each corner of them that
// there is, and that there is not; and each edge laid there, and lifted again.
func TestEachState(t *testing.T) {
	for _, sizes := range [][2]int{{1, 1}, {1, 2}, {2, 1}, {2, 2}, {3, 2}} {
		states := 0
		for p := range eachState(sizes[0], sizes[1]) {
			checkState(t, p)
			states++
		}
		if states < 2 {
			t.Fatalf("%d states", states)
		}
	}
}

// checkState fails unless turns made of lists are so, and go on so.
func checkState(t *testing.T, p *plain) {
	t.Helper()
	x := loaded(t, len(p.rows), p.edges, p.rows)
	p.checkAll(t, x)
	for _, a := range p.corners() {
		checkErr(t, "Check", x.Check(a), p.check(a))
		for _, b := range p.corners() {
			for e := -1; e <= p.edges; e++ {
				checkLaid(t, x, p, e, a, b)
			}
		}
	}
	p.checkAll(t, x)
	for e := -1; e <= p.edges; e++ {
		x, q := loaded(t, len(p.rows), p.edges, p.rows), p.clone()
		checkErr(t, "Lift", x.Lift(e), q.lift(e))
		q.checkAll(t, x)
		checkErr(t, "Lift again", x.Lift(e), q.lift(e))
		q.checkAll(t, x)
	}
}

// checkLaid fails unless an edge is laid as the lists tell, and, lifted, leaves
// all as it was.
func checkLaid(t *testing.T, x *turn.Turns, p *plain, e int, a, b turn.Corner) {
	t.Helper()
	q := p.clone()
	want := q.lay(e, a, b)
	checkErr(t, "Lay", x.Lay(e, a, b), want)
	if want != 0 {
		return
	}
	q.checkAll(t, x)
	checkErr(t, "Lay again", x.Lay(e, a, b), api.ErrSame)
	checkErr(t, "Lift", x.Lift(e), 0)
	p.checkAll(t, x)
}

// TR3: all lists of few numbers, right and wrong, cut into lists in all ways.
func TestLoadEach(t *testing.T) {
	for many := range 5 {
		for all := range eachList(many, -1, 4) {
			for i := 0; i <= many; i++ {
				for j := i; j <= many; j++ {
					lists := [][]int{all[:i], all[i:j], all[j:]}
					checkLoad(t, 1, 2, lists[:1])
					checkLoad(t, 2, 2, lists[:2])
					checkLoad(t, 3, 2, lists[:2])
					checkLoad(t, 3, 2, lists)
					checkLoad(t, 2, 2, lists)
				}
			}
		}
	}
}

// eachList goes over all lists of n numbers from low to high.
func eachList(n, low, high int) func(yield func([]int) bool) {
	return func(yield func([]int) bool) {
		l := slices.Repeat([]int{low}, n)
		for {
			if !yield(l) {
				return
			}
			i := 0
			for ; i < n && l[i] == high; i++ {
				l[i] = low
			}
			if i == n {
				return
			}
			l[i]++
		}
	}
}

// mayLoad tells whether lists may stand round so many vertices.
func mayLoad(vertices, edges int, round [][]int) bool {
	all := slices.Concat(round...)
	for i, d := range all {
		twin := d + 1
		if d%2 != 0 {
			twin = d - 1
		}
		if d < 0 || d > 2*edges-1 || slices.Contains(all[:i], d) || !slices.Contains(all, twin) {
			return false
		}
	}
	return len(round) <= vertices
}

// checkLoad fails unless Load answers what the lists tell.
func checkLoad(t *testing.T, vertices, edges int, round [][]int) {
	t.Helper()
	if !mayLoad(vertices, edges, round) {
		checkNoLoad(t, vertices, edges, round, api.ErrForm)
		return
	}
	p := newPlain(vertices, edges)
	for v, row := range round {
		if len(row) > 0 {
			k := slices.Index(row, slices.Min(row))
			p.rows[v] = slices.Concat(row[k:], row[:k])
		}
	}
	p.checkAll(t, loaded(t, vertices, edges, round))
}

// checkNoLoad fails unless Load answers just that error.
func checkNoLoad(t *testing.T, vertices, edges int, round [][]int, want api.Errno) {
	t.Helper()
	x, err := turn.Load(vertices, edges, round)
	checkErr(t, "Load", err, want)
	if x != nil {
		t.Fatalf("Load(%d, %d, %v): not nil beside an error", vertices, edges, round)
	}
}

// TR3: wrong lists, each fault alone.
func TestLoadWrong(t *testing.T) {
	for _, round := range [][][]int{
		{{0, 1}, {}, {}, {}},
		{nil, nil, nil, nil},
		{{0, 1}, {2, 3}, {}, {4, 5}},
		{{0}},
		{{1}},
		{{0, 1, 2}},
		{{5}, {4, 3}},
		{{0, 1, 0}},
		{{0, 1}, {1}},
		{{0, 1}, {}, {0, 1}},
		{{0, 1, 6, 7}},
		{{0, 1, -1, -2}},
		{{0, 1}, {6}},
		{{}, {}, {-1}},
	} {
		checkNoLoad(t, 3, 3, round, api.ErrForm)
	}
	for _, d := range far {
		checkNoLoad(t, 3, 3, [][]int{{0, 1}, {d}}, api.ErrForm)
		checkNoLoad(t, 3, 3, [][]int{{d, 0, 1}}, api.ErrForm)
		checkNoLoad(t, 3, 3, [][]int{{d, d ^ 1}}, api.ErrForm)
	}
}

// TR3: New's error is the first one, whatever the lists.
func TestLoadSizes(t *testing.T) {
	for _, n := range wrongMany {
		for _, round := range [][][]int{nil, {}, {{0, 1}}, {{0}}, {{-1}}, {{0, 0}}, make([][]int, 9)} {
			checkNoLoad(t, n, 4, round, api.ErrArg)
			checkNoLoad(t, 4, n, round, api.ErrArg)
			checkNoLoad(t, n, n, round, api.ErrArg)
		}
	}
}

// TR3: nil and the empty list are the same; fewer lists than vertices.
func TestLoadFew(t *testing.T) {
	for _, round := range [][][]int{nil, {}, {nil}, {{}, nil}, {{}, {}, {}}} {
		newPlain(3, 2).checkAll(t, loaded(t, 3, 2, round))
	}
	x := loaded(t, 3, 2, [][]int{nil, {3, 2}})
	(&plain{edges: 2, rows: [][]int{nil, {2, 3}, nil}}).checkAll(t, x)
	checkErr(t, "Lay", x.Lay(0, alone(2), behind(1, 3)), 0)
	(&plain{edges: 2, rows: [][]int{nil, {1, 2, 3}, {0}}}).checkAll(t, x)
}

// move is a chance call, mostly a right one, done to both.
func move(t *testing.T, r *rand.Rand, x *turn.Turns, p *plain) {
	t.Helper()
	e := r.Intn(p.edges+2) - 1
	if r.Intn(3) == 0 {
		checkErr(t, "Lift", x.Lift(e), p.lift(e))
		return
	}
	a, b := p.someCorner(r), p.someCorner(r)
	checkErr(t, "Check", x.Check(a), p.check(a))
	checkErr(t, "Check", x.Check(b), p.check(b))
	checkErr(t, "Lay", x.Lay(e, a, b), p.lay(e, a, b))
}

// someCorner is a chance corner, mostly one that there is.
func (p *plain) someCorner(r *rand.Rand) turn.Corner {
	v := r.Intn(len(p.rows))
	row := p.rows[v]
	switch {
	case r.Intn(20) == 0:
		return behind(r.Intn(len(p.rows)+2)-1, r.Intn(2*p.edges+3)-2)
	case len(row) == 0:
		return alone(v)
	}
	return behind(v, row[r.Intn(len(row))])
}

// P1, TR1 to TR3: long runs of chance calls; what is loaded in their midst goes
// on as what it was told of.
func TestLongRuns(t *testing.T) {
	for i, sizes := range [][2]int{{1, 1}, {1, 8}, {2, 3}, {5, 5}, {8, 2}, {4, 30}, {40, 40}} {
		r := rand.New(rand.NewSource(int64(i)))
		x, p := made(t, sizes[0], sizes[1]), newPlain(sizes[0], sizes[1])
		for k := range 1500 {
			move(t, r, x, p)
			if k%5 == 0 {
				p.checkAll(t, x)
			}
			if k%50 == 49 {
				x = loaded(t, sizes[0], sizes[1], p.rows)
			}
		}
		p.checkAll(t, x)
	}
}

// TR4: edges laid one behind another, and lifted in the other order, leave all
// as it was, step by step.
func TestBack(t *testing.T) {
	for i := range 60 {
		r := rand.New(rand.NewSource(int64(i)))
		x, p := made(t, 4, 12), newPlain(4, 12)
		var were []*plain
		order := r.Perm(12)
		for _, e := range order {
			were = append(were, p.clone())
			a, b := p.someCorner(r), p.someCorner(r)
			for p.check(a) != 0 || p.check(b) != 0 {
				a, b = p.someCorner(r), p.someCorner(r)
			}
			checkErr(t, "Lay", x.Lay(e, a, b), p.lay(e, a, b))
		}
		p.checkAll(t, x)
		for k := len(order) - 1; k >= 0; k-- {
			checkErr(t, "Lift", x.Lift(order[k]), 0)
			were[k].checkAll(t, x)
		}
	}
}

// Two Turns share nothing.
func TestTwo(t *testing.T) {
	round := [][]int{{0, 2}, {1, 3}}
	x, y, p := loaded(t, 2, 4, round), loaded(t, 2, 4, round), &plain{edges: 4, rows: round}
	q := p.clone()
	checkErr(t, "Lay", x.Lay(3, behind(0, 0), behind(1, 3)), q.lay(3, behind(0, 0), behind(1, 3)))
	p.checkAll(t, y)
	checkErr(t, "Lift", y.Lift(0), 0)
	q.checkAll(t, x)
}

// What is handed in is neither changed nor kept; what is answered is new memory,
// spare room too.

// roomy is a list with spare room, and all of it as it is.
func roomy(l ...int) (list, whole []int) {
	whole = append(slices.Clone(l), 70, 71, 72, 73)
	return whole[:len(l)], whole
}

// spoil writes over a list and its spare room.
func spoil(l []int) {
	for i := range l[:cap(l)] {
		l[:cap(l)][i] = -9
	}
}

func TestLoadKeepsNothing(t *testing.T) {
	a, aAll := roomy(3, 0, 2)
	b, bAll := roomy(1)
	round := append(make([][]int, 0, 4), a, b)
	x := loaded(t, 3, 4, round)
	p := &plain{edges: 4, rows: [][]int{{0, 2, 3}, {1}, nil}}
	corner := alone(2)
	checkErr(t, "Lay", x.Lay(2, behind(0, 2), corner), p.lay(2, behind(0, 2), corner))
	checkErr(t, "Lift", x.Lift(0), p.lift(0))
	checkList(t, "what was handed in", aAll, nil, []int{3, 0, 2, 70, 71, 72, 73}, 0)
	checkList(t, "what was handed in", bAll, nil, []int{1, 70, 71, 72, 73}, 0)
	if len(round) != 2 || round[:3][2] != nil || len(round[0]) != 3 || len(round[1]) != 1 {
		t.Fatalf("what was handed in: %v", round[:cap(round)])
	}
	spoil(a)
	spoil(b)
	round[0], round[1] = nil, nil
	p.checkAll(t, x)
}

func TestRoundIsNew(t *testing.T) {
	p := &plain{edges: 4, rows: [][]int{{0, 4, 2}, {1}, {3, 5}, nil}}
	x := loaded(t, 4, 4, p.rows)
	for v := range p.rows {
		one, err := x.Round(v)
		checkList(t, "Round", one, err, p.rows[v], 0)
		other, err := x.Round(v)
		checkErr(t, "Round", err, 0)
		spoil(one)
		checkList(t, "another answer", other, nil, p.rows[v], 0)
		p.checkAll(t, x)
		checkErr(t, "Lay", x.Lay(3, behind(1, 1), alone(3)), 0)
		checkErr(t, "Lift", x.Lift(3), 0)
		checkList(t, "an answer behind a change", other, nil, p.rows[v], 0)
		if slices.ContainsFunc(one[:cap(one)], func(d int) bool { return d != -9 }) {
			t.Fatalf("an answer was changed: %v", one)
		}
	}
}

// The most vertices and edges.

// TR1, TR2: the last vertex, edge and dart.
func TestLast(t *testing.T) {
	x := made(t, most, most)
	if vertices, edges := x.Sizes(); vertices != most || edges != most {
		t.Fatalf("Sizes: %d, %d", vertices, edges)
	}
	checkErr(t, "Check", x.Check(alone(most-1)), 0)
	checkErr(t, "Check", x.Check(alone(most)), api.ErrRange)
	checkErr(t, "Lay", x.Lay(most, alone(0), alone(0)), api.ErrRange)
	got, err := x.Next(2*most - 1)
	check(t, "Next of a dart that is not laid", got, err, 0, api.ErrStale)
	checkErr(t, "Lay", x.Lay(most-1, alone(most-1), alone(0)), 0)
	list, err := x.Round(most - 1)
	checkList(t, "Round", list, err, []int{2*most - 2}, 0)
	list, err = x.Round(0)
	checkList(t, "Round", list, err, []int{2*most - 1}, 0)
	got, err = x.Origin(2*most - 2)
	check(t, "Origin", got, err, most-1, 0)
	got, err = x.Origin(2 * most)
	check(t, "Origin", got, err, 0, api.ErrRange)
	got, err = x.Degree(most - 2)
	check(t, "Degree", got, err, 0, 0)
	if x.Has(0) || !x.Has(most-1) || x.Has(most) {
		t.Fatal("Has of the last edge, or of another one")
	}
	checkErr(t, "Lift", x.Lift(most-1), 0)
	list, err = x.Round(most - 1)
	checkList(t, "Round", list, err, nil, 0)
}

// All edges between two vertices: each call but Round needs but a few steps, more
// would take hours.
func TestMany(t *testing.T) {
	x := made(t, 2, most)
	checkErr(t, "Lay", x.Lay(0, alone(0), alone(1)), 0)
	for e := 1; e < most; e++ {
		checkErr(t, "Lay", x.Lay(e, behind(0, 2*e-2), behind(1, 1)), 0)
	}
	for e := range most {
		got, err := x.Next(2 * e)
		check(t, "Next", got, err, (2*e+2)%(2*most), 0)
		got, err = x.Prev(2*e + 1)
		check(t, "Prev", got, err, (2*e+3)%(2*most), 0)
	}
	list, err := x.Round(1)
	checkErr(t, "Round", err, 0)
	for k, d := range list {
		if want := 2*((most-k)%most) + 1; d != want {
			t.Fatalf("Round(1): %d at %d, want %d", d, k, want)
		}
	}
	for e := range most {
		degree, err := x.Degree(0)
		check(t, "Degree", degree, err, most-e, 0)
		checkErr(t, "Lift", x.Lift(e), 0)
	}
	newPlain(2, 1).checkVertex(t, x, 0)
	newPlain(2, 1).checkVertex(t, x, 1)
}

// TR3: all darts round one vertex, and each round one of its own; and one number
// too many.
func TestLoadMany(t *testing.T) {
	all := rand.New(rand.NewSource(10)).Perm(2 * most)
	x := loaded(t, most, most, [][]int{nil, all})
	list, err := x.Round(1)
	k := slices.Index(all, 0)
	checkErr(t, "Round", err, 0)
	if !slices.Equal(list, slices.Concat(all[k:], all[:k])) {
		t.Fatal("Round of all darts: others")
	}
	checkNoLoad(t, most, most, [][]int{all, {all[7]}}, api.ErrForm)
	checkNoLoad(t, most, most, [][]int{all[1:]}, api.ErrForm)
	own := make([][]int, most)
	for v := range own {
		own[v] = []int{2 * v, (2*v + 3) % (2 * most)}
	}
	x = loaded(t, most, most, own)
	for v, row := range own {
		for i, d := range row {
			got, err := x.Next(d)
			check(t, "Next", got, err, row[1-i], 0)
			got, err = x.Origin(d)
			check(t, "Origin", got, err, v, 0)
		}
	}
	checkNoLoad(t, most, most, append(own, nil), api.ErrForm)
}
