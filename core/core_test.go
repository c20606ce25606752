package core_test

import (
	"fmt"
	"math"
	"math/rand"
	"slices"
	"testing"

	"plait/api"
	"plait/core"
	"plait/sphere"
	"plait/turn"
)

// CO1: New.

func TestNew(t *testing.T) {
	for _, n := range []int{1, 2, 3, 5} {
		newPlain(n).checkAll(t, made(t, n))
	}
	for _, n := range []int{1 << 10, most} {
		m := made(t, n)
		check(t, "Room", m.Room(), nil, n, 0)
		check(t, "Counts", m.Counts(), nil, sphere.Counts{}, 0)
		checkErr(t, "AddVertex of the last", m.AddVertex(n-1), 0)
		checkErr(t, "AddVertex of none", m.AddVertex(n), api.ErrRange)
		checkErr(t, "Join of none", m.Join(n, alone(n-1), alone(n-1), 1), api.ErrRange)
		checkErr(t, "Join of the last", m.Join(n-1, alone(n-1), alone(n-1), 1), 0)
		check(t, "Counts", m.Counts(), nil, sphere.Counts{V: 1, E: 1, F: 2, C: 1}, 0)
		list, err := m.Face(2*n - 1)
		checkErr(t, "Face", err, 0)
		if !slices.Equal(list, []int{2*n - 1}) {
			t.Fatalf("Face of the last dart: %v", list)
		}
		_, err = m.Face(2 * n)
		checkErr(t, "Face of none", err, api.ErrRange)
	}
}

func TestNewWrong(t *testing.T) {
	for _, n := range []int{0, -1, math.MinInt, math.MinInt32, most + 1, 2 * most, math.MaxInt32, 1 << 32, 1<<32 + 1, 1 << 62, math.MaxInt} {
		m, err := core.New(n)
		checkErr(t, "New", err, api.ErrArg)
		if m != nil {
			t.Fatalf("New(%d): %v beside an error", n, m)
		}
		m, err = core.Of(n, nil, nil, nil)
		checkErr(t, "Of", err, api.ErrArg)
		if m != nil {
			t.Fatalf("Of(%d): %v beside an error", n, m)
		}
	}
}

// To make a Map takes no steps for each place that it has room for, nor does
// what is done with its first ones.
func TestNewAtOnce(t *testing.T) {
	for range 10000 {
		m := made(t, most)
		checkErr(t, "AddVertex", m.AddVertex(0), 0)
		checkErr(t, "AddVertex", m.AddVertex(1), 0)
		checkErr(t, "Join", m.Join(0, alone(0), alone(1), 5), 0)
		checkErr(t, "Join", m.Join(1, behind(0, 0), behind(1, 1), 4), 0)
		check(t, "Sum", m.Sum(), nil, 4, 0)
	}
}

// The chapter's example, and the document's first two.
func TestExample(t *testing.T) {
	b := newBoth(t, 3)
	for v := range 3 {
		b.must(b.addVertex(v))
	}
	b.must(b.join(0, alone(0), alone(1), 1))
	check(t, "Counts", b.m.Counts(), nil, sphere.Counts{V: 3, E: 1, F: 2, C: 2}, 0)
	size, err := b.m.FaceLen(1)
	check(t, "FaceLen", size, err, 2, 0)
	is, err := b.m.Bridge(0)
	check(t, "Bridge", is, err, true, 0)
	b.must(b.join(1, behind(1, 1), alone(2), 2))
	b.must(b.join(2, behind(2, 3), behind(0, 0), 3))
	check(t, "Sum", b.m.Sum(), nil, 3, 0)
	for e, want := range []bool{true, true, false} {
		is, err := b.m.Marked(e)
		check(t, "Marked", is, err, want, 0)
	}
	b.p.checkAll(t, b.m)
	b.must(b.part(0))
	check(t, "Sum", b.m.Sum(), nil, 5, 0)
	for e, want := range []api.Errno{api.ErrStale, 0, 0} {
		is, err := b.m.Marked(e)
		check(t, "Marked", is, err, want == 0, want)
	}
	b.p.checkAll(t, b.m)
}

// Some answers written out, so that the lists are held to something.
func TestWrittenOut(t *testing.T) {
	// A triangle of which the vertex 2 has an edge to the vertex 3, which stands
	// outside; a loop at 4, an edge laid twice between 5 and 6, and 7 alone.
	rows := [][]int{{0, 5}, {1, 2}, {3, 4, 6}, {7}, {8, 9}, {10, 12}, {13, 11}}
	w := []int32{7, -7, 7, 0, 3, 2, 2}
	m, err := core.Of(9, upTo(8), rows, w)
	checkErr(t, "Of", err, 0)
	check(t, "Counts", m.Counts(), nil, sphere.Counts{V: 8, E: 7, F: 7, C: 4}, 0)
	check(t, "Sum", m.Sum(), nil, 2, 0)
	for e, want := range []string{"marked", "marked", "tie", "bridge", "tie", "marked", "tie"} {
		is, err := m.Marked(e)
		check(t, "Marked", is, err, want != "tie", 0)
		is, err = m.Bridge(e)
		check(t, "Bridge", is, err, want == "bridge", 0)
	}
	for d, want := range [][]int{{0, 2, 4}, {1, 5, 6, 7, 3}, {2, 4, 0}, {3, 1, 5, 6, 7}, {4, 0, 2}, {5, 6, 7, 3, 1}, {6, 7, 3, 1, 5}, {7, 3, 1, 5, 6}, {8}, {9}, {10, 13}, {11, 12}, {12, 11}, {13, 10}} {
		list, err := m.Face(d)
		checkErr(t, "Face", err, 0)
		if !slices.Equal(list, want) {
			t.Fatalf("Face(%d): %v, want %v", d, list, want)
		}
	}
	// Behind 5 the face of 0 is looked into, behind 6 that of 1.
	for _, c := range []struct {
		a, b turn.Corner
		is   bool
	}{{behind(0, 5), behind(1, 1), true}, {behind(0, 0), behind(1, 1), false}, {behind(2, 6), behind(3, 7), true}, {behind(2, 3), behind(3, 7), false}, {behind(3, 7), alone(7), true}, {alone(7), alone(7), true}, {behind(4, 8), behind(4, 9), false}, {behind(4, 9), behind(4, 9), true}, {behind(4, 8), behind(3, 7), true}} {
		is, err := m.Legal(c.a, c.b)
		check(t, fmt.Sprint("Legal of ", c.a, c.b), is, err, c.is, 0)
	}
	plainOf(9, upTo(8), rows, w).checkSome(t, m)
}

// CO1: what is done with vertices.
func TestVertices(t *testing.T) {
	b := newBoth(t, 3)
	checkErr(t, "DropVertex", b.m.DropVertex(1), api.ErrStale)
	b.must(b.addVertex(1))
	checkErr(t, "AddVertex", b.m.AddVertex(1), api.ErrSame)
	b.p.checkAll(t, b.m)
	b.must(b.join(2, alone(1), alone(1), 6))
	checkErr(t, "AddVertex", b.m.AddVertex(1), api.ErrSame)
	checkErr(t, "DropVertex", b.m.DropVertex(1), api.ErrBusy)
	b.p.checkAll(t, b.m)
	b.must(b.part(2))
	b.must(b.dropVertex(1))
	b.p.checkAll(t, b.m)
	checkErr(t, "DropVertex", b.m.DropVertex(1), api.ErrStale)
	// At a vertex that is not laid there is no corner, darts or not.
	checkErr(t, "Check", b.m.Check(alone(1)), api.ErrStale)
	checkErr(t, "Join", b.m.Join(0, alone(1), alone(1), 1), api.ErrStale)
	b.must(b.addVertex(1))
	b.must(b.addVertex(0))
	b.must(b.join(2, alone(0), alone(1), -6))
	checkErr(t, "DropVertex", b.m.DropVertex(0), api.ErrBusy)
	checkErr(t, "DropVertex", b.m.DropVertex(1), api.ErrBusy)
	b.p.checkAll(t, b.m)
}

// square is a map of room 8: a square of the vertices 0 to 3, 4 and 5 alone; the
// others are not laid.
func square(t *testing.T) both {
	t.Helper()
	p := plainOf(8, upTo(6), [][]int{{0, 7}, {1, 2}, {3, 4}, {5, 6}}, []int32{4, 3, 2, 1})
	return both{t, p.of(t), p}
}

// CO1: of several errors the first one that the rule names, and nothing is done.
func TestJoinErrors(t *testing.T) {
	b := square(t)
	fine, inner, outer := alone(4), behind(0, 7), behind(1, 2)
	stale, none, gone := behind(0, 1), alone(8), alone(7)
	for _, c := range []struct {
		e    int
		a, b turn.Corner
		want api.Errno
	}{
		{8, stale, none, api.ErrRange},
		{-1, fine, fine, api.ErrRange},
		{0, none, stale, api.ErrSame},
		{3, inner, outer, api.ErrSame},
		{3, fine, fine, api.ErrSame},
		{4, stale, none, api.ErrStale},
		{4, none, stale, api.ErrRange},
		{4, gone, none, api.ErrStale},
		{4, fine, none, api.ErrRange},
		{4, fine, stale, api.ErrStale},
		{4, fine, gone, api.ErrStale},
		{4, alone(0), fine, api.ErrStale},
		{4, behind(4, 0), fine, api.ErrStale},
		{4, behind(0, 8), fine, api.ErrStale},
		{4, inner, behind(1, 16), api.ErrStale},
		{4, inner, outer, api.ErrGenus},
		{4, outer, inner, api.ErrGenus},
		{4, behind(0, 0), behind(0, 7), api.ErrGenus},
	} {
		checkErr(t, fmt.Sprint("Join ", c), b.m.Join(c.e, c.a, c.b, 9), c.want)
		if b.join(c.e, c.a, c.b, 9) != c.want {
			t.Fatalf("the lists answer something else: %v", c)
		}
		b.p.checkSome(t, b.m)
		if c.e != 4 {
			continue
		}
		is, err := b.m.Legal(c.a, c.b)
		want := c.want
		if want == api.ErrGenus {
			want = 0
		}
		check(t, "Legal", is, err, false, want)
	}
}

// Of two numbers one that is none is told ahead of one that is not laid,
// whichever stands first.
func TestPairErrors(t *testing.T) {
	b := square(t)
	for _, c := range []struct {
		a, b int
		want api.Errno
	}{{0, 4, 0}, {0, 6, api.ErrStale}, {7, 0, api.ErrStale}, {0, 8, api.ErrRange}, {7, 8, api.ErrRange}, {8, 7, api.ErrRange}, {-1, 7, api.ErrRange}, {7, -1, api.ErrRange}} {
		is, err := b.m.Connected(c.a, c.b)
		check(t, "Connected", is, err, false, c.want)
	}
	for _, c := range []struct {
		a, b int
		want api.Errno
	}{{0, 1, 0}, {0, 8, api.ErrStale}, {15, 0, api.ErrStale}, {0, 16, api.ErrRange}, {8, 16, api.ErrRange}, {16, 8, api.ErrRange}, {-1, 9, api.ErrRange}, {9, -1, api.ErrRange}} {
		is, err := b.m.SameFace(c.a, c.b)
		check(t, "SameFace", is, err, false, c.want)
	}
}

// checkNumber fails unless all calls answer that error of a number that is none.
func checkNumber(t *testing.T, m *core.Map, x int, want api.Errno) {
	t.Helper()
	checkErr(t, "AddVertex", m.AddVertex(x), want)
	checkErr(t, "DropVertex", m.DropVertex(x), want)
	checkErr(t, "Join", m.Join(x, alone(4), alone(5), 1), want)
	checkErr(t, "Part", m.Part(x), want)
	checkErr(t, "Weigh", m.Weigh(x, 1), want)
	checkErr(t, "Check", m.Check(alone(x)), want)
	checkErr(t, "Check", m.Check(behind(x, 0)), want)
	check(t, "Live", m.Live(x), nil, false, 0)
	check(t, "Has", m.Has(x), nil, false, 0)
	for _, ask := range []func(x int) (bool, error){
		m.Bridge, m.Marked,
		func(x int) (bool, error) { return m.Connected(x, 0) },
		func(x int) (bool, error) { return m.Connected(0, x) },
		func(x int) (bool, error) { return m.SameFace(x, 0) },
		func(x int) (bool, error) { return m.SameFace(0, x) },
		func(x int) (bool, error) { return m.Legal(alone(x), alone(4)) },
		func(x int) (bool, error) { return m.Legal(alone(4), alone(x)) },
	} {
		is, err := ask(x)
		check(t, "a question", is, err, false, want)
	}
	for _, ask := range []func(x int) (int, error){m.FaceLen, m.Next, m.Origin} {
		got, err := ask(x)
		check(t, "a question of a dart", got, err, 0, want)
	}
	w, err := m.Weight(x)
	check(t, "Weight", w, err, 0, want)
	list, err := m.Face(x)
	checkErr(t, "Face", err, want)
	if len(list) > 0 {
		t.Fatalf("Face(%d): %v beside an error", x, list)
	}
}

func TestFar(t *testing.T) {
	b := square(t)
	for _, x := range far {
		checkNumber(t, b.m, x, api.ErrRange)
		checkErr(t, "Check", b.m.Check(behind(0, x)), api.ErrStale)
		if x != none {
			checkErr(t, "Check", b.m.Check(behind(4, x)), api.ErrStale)
		}
		checkErr(t, "Join", b.m.Join(5, alone(4), behind(0, x), 1), api.ErrStale)
	}
	b.p.checkSome(t, b.m)
}

func TestNil(t *testing.T) {
	var m *core.Map
	for _, x := range append([]int{0, 1, 7}, far...) {
		checkNumber(t, m, x, api.ErrArg)
	}
	check(t, "Room", m.Room(), nil, 0, 0)
	check(t, "Sum", m.Sum(), nil, 0, 0)
	check(t, "Counts", m.Counts(), nil, sphere.Counts{}, 0)
}

// CO1: an edge is laid as layer 10 has it: at each two corners between which it
// may be, they being one too; and taken away it leaves all as it was.
func TestJoinEachCorner(t *testing.T) {
	for _, first := range []*plain{
		plainOf(4, []int{0}, nil, nil),
		plainOf(4, upTo(3), [][]int{{0}, {1}}, []int32{5}),
		plainOf(4, upTo(3), [][]int{{2, 0}, {1}, {3}}, []int32{5, 6}),
		plainOf(4, upTo(3), [][]int{{0, 1, 4, 5}}, []int32{1, 0, 1}),
		plainOf(4, upTo(4), [][]int{{0, 2, 4}, {5, 3, 1}}, []int32{4, 4, 4}),
		plainOf(4, upTo(4), [][]int{{0, 5}, {1, 2}, {3, 4}}, []int32{7, 8, 9}),
	} {
		e := slices.Index([]bool{first.has(0), first.has(1), first.has(2), first.has(3)}, false)
		for _, a := range first.corners() {
			for _, c := range first.corners() {
				for _, w := range []int32{-1, 5, 10} {
					b := both{t, first.of(t), first.clone()}
					err := b.join(e, a, c, w)
					b.p.checkAll(t, b.m)
					if err != 0 {
						continue
					}
					b.must(b.part(e))
					b.p.checkAll(t, b.m)
					first.checkNumbers(t, b.m)
				}
			}
		}
	}
}

// Parted edges' darts may have come to stand side by side in either order.
func TestLoopBothWays(t *testing.T) {
	for _, row := range [][]int{{0, 2, 3, 1}, {0, 1, 2, 3}, {0, 3, 2, 1}, {1, 2, 3, 0}, {1, 0, 2, 3}, {2, 3, 0, 1}, {3, 2, 1, 0}} {
		for e := range 2 {
			p := plainOf(3, []int{0, 1}, [][]int{row}, []int32{3, 3})
			b := both{t, p.of(t), p}
			b.must(b.part(e))
			b.p.checkAll(t, b.m)
			b.must(b.join(2, alone(1), behind(0, 2-2*e), 0))
			b.must(b.join(e, behind(0, 3-2*e), behind(0, 3-2*e), 0))
			b.p.checkAll(t, b.m)
			b.must(b.part(1 - e))
			b.p.checkAll(t, b.m)
			b.must(b.part(2))
			b.must(b.part(e))
			b.p.checkAll(t, b.m)
		}
	}
}

// CO1, CO4: all weights that an edge of a ring may have, ahead of, like and
// behind those of the others.
func TestWeigh(t *testing.T) {
	b := square(t)
	for _, w := range []int32{0, 1, 2, 3, 4, 5, -1, math.MaxInt32, math.MinInt32, 2, 2} {
		for e := range 4 {
			b.must(b.weigh(e, w))
			got, err := b.m.Weight(e)
			check(t, "Weight", got, err, w, 0)
			b.p.checkSome(t, b.m)
		}
		b.must(b.weigh(2, w/2))
		b.p.checkSome(t, b.m)
	}
	checkErr(t, "Weigh", b.m.Weigh(4, 1), api.ErrStale)
	b.p.checkSome(t, b.m)
}

// Of edges of one weight the lower ones are marked, in whichever order they come.
func TestOneWeight(t *testing.T) {
	for _, w := range []int32{0, -4, math.MaxInt32, math.MinInt32} {
		for _, order := range [][]int{{0, 1, 2, 3}, {3, 2, 1, 0}, {2, 0, 3, 1}, {1, 3, 0, 2}} {
			b := newBoth(t, 4)
			b.must(b.addVertex(0))
			b.must(b.addVertex(1))
			at := [2]turn.Corner{alone(0), alone(1)}
			for _, e := range order {
				b.must(b.join(e, at[0], at[1], w))
				// All edges lie side by side: each is laid beside the last one.
				at = [2]turn.Corner{behind(0, 2*e), behind(1, b.prev(2*e+1))}
				b.p.checkSome(t, b.m)
			}
			for _, e := range []int{0, 1, 2} {
				is, err := b.m.Marked(e)
				check(t, "Marked", is, err, true, 0)
				b.must(b.part(e))
				b.p.checkSome(t, b.m)
			}
		}
	}
}

// prev is the dart ahead of one, round its vertex.
func (b both) prev(d int) int {
	x := d
	for b.p.after(x) != d {
		x = b.p.after(x)
	}
	return x
}

// The sum is far beyond 32 bits.
func TestSum(t *testing.T) {
	const n = 1000
	for _, w := range []int32{math.MaxInt32, math.MinInt32} {
		m := made(t, n)
		for v := range n {
			checkErr(t, "AddVertex", m.AddVertex(v), 0)
		}
		last := alone(0)
		for e := range n - 1 {
			checkErr(t, "Join", m.Join(e, last, alone(e+1), w), 0)
			last = behind(e+1, 2*e+1)
			check(t, "Sum", m.Sum(), nil, int64(w)*int64(e+1), 0)
		}
		checkErr(t, "Join", m.Join(n-1, last, behind(0, 0), w), 0)
		check(t, "Sum", m.Sum(), nil, int64(w)*(n-1), 0)
		for e := range n {
			checkErr(t, "Weigh", m.Weigh(e, 0), 0)
		}
		check(t, "Sum", m.Sum(), nil, 0, 0)
	}
}

// state tells a map, so that two that are the same are told alike.
func (p *plain) state() string {
	rows := make([][]int, p.n)
	for v, row := range p.rows {
		if len(row) > 0 {
			k := slices.Index(row, slices.Min(row))
			rows[v] = slices.Concat(row[k:], row[:k])
		}
	}
	return fmt.Sprint(p.live, rows, p.w)
}

// steps are all things that may be done with a map, and some that may not.
func (p *plain) steps(weights []int32) []func(b both) {
	var out []func(b both)
	for x := range p.n {
		out = append(out, func(b both) { b.addVertex(x) }, func(b both) { b.dropVertex(x) }, func(b both) { b.part(x) })
		for _, w := range weights {
			out = append(out, func(b both) { b.weigh(x, w) })
			if !p.has(x) {
				out = append(out, p.joins(x, w)...)
			}
		}
	}
	return out
}

// joins lay an edge between each two corners.
func (p *plain) joins(e int, w int32) []func(b both) {
	var out []func(b both)
	for _, a := range p.corners() {
		for _, c := range p.corners() {
			out = append(out, func(b both) { b.join(e, a, c, w) })
		}
	}
	return out
}

// eachState does each step with each map that can be come to, and has what it
// came to seen. Each map is made by Of, so that this is seen to go on, too.
func eachState(t *testing.T, n int, weights []int32, see func(b both)) int {
	t.Helper()
	start := newPlain(n)
	known := map[string]bool{start.state(): true}
	for list := []*plain{start}; len(list) > 0; list = list[1:] {
		for _, step := range list[0].steps(weights) {
			b := both{t, list[0].of(t), list[0].clone()}
			step(b)
			see(b)
			if key := b.p.state(); !known[key] {
				known[key] = true
				list = append(list, b.p)
			}
		}
	}
	return len(known)
}

// P1, P2, P3: each map of two vertices and two edges.
func TestEachState(t *testing.T) {
	many := eachState(t, 2, []int32{0, 1}, func(b both) { b.p.checkAll(b.t, b.m) })
	check(t, "so many maps", many, nil, 164, 0)
}

// Each map of three vertices and three edges, these of one weight.
func TestEachStateOfThree(t *testing.T) {
	many := eachState(t, 3, []int32{0}, func(b both) {
		b.p.checkNumbers(b.t, b.m)
		b.p.checkEdges(b.t, b.m)
	})
	check(t, "so many maps", many, nil, 4754, 0)
}

// change does something with a map, mostly something that may be done.
func (b both) change(r *rand.Rand, weights int, parted int) {
	b.t.Helper()
	x := r.Intn(b.p.n)
	w := int32(r.Intn(2*weights+1) - weights)
	switch k := r.Intn(20); {
	case k < 3:
		b.addVertex(x)
	case k == 3:
		b.dropVertex(x)
	case k < 4+parted:
		b.part(x)
	case k < 9:
		b.weigh(x, w)
	case k == 9:
		list := b.p.nearby()
		b.join(x, list[r.Intn(len(list))], list[r.Intn(len(list))], w)
	default:
		list := b.p.corners()
		if len(list) > 0 {
			b.join(x, list[r.Intn(len(list))], list[r.Intn(len(list))], w)
		}
	}
}

// P1: whatever is done, all is as plain lists tell it.
func TestLongRun(t *testing.T) {
	r := rand.New(rand.NewSource(16))
	for n := 1; n <= 7; n++ {
		for _, weights := range []int{0, 1, 3, 1000, math.MaxInt32 / 2} {
			b := newBoth(t, n)
			for i := range 300 {
				b.change(r, weights, 1+i/100)
				b.p.checkSome(t, b.m)
				b.p.checkPairs(t, b.m, r, 4)
			}
			b.p.checkAll(t, b.m)
		}
	}
}

// The same of maps that are greater, looked at less often.
func TestLongerRun(t *testing.T) {
	r := rand.New(rand.NewSource(1616))
	for _, n := range []int{12, 20} {
		b := newBoth(t, n)
		for i := range 3000 {
			b.change(r, n, 1+i%1000/500)
			if i%100 == 0 {
				b.p.checkSome(t, b.m)
				b.p.checkPairs(t, b.m, r, 10)
			}
		}
	}
}

// CO3: what Of makes goes on as a map does to which the same came one by one.
func TestOfGoesOn(t *testing.T) {
	r := rand.New(rand.NewSource(61))
	for n := 2; n <= 6; n++ {
		b := newBoth(t, n)
		for i := range 120 {
			b.change(r, 2, 1)
			if i%10 > 0 {
				continue
			}
			again := both{t, b.p.of(t), b.p.clone()}
			again.p.checkSome(t, again.m)
			for range 15 {
				again.change(r, 2, 2)
				again.p.checkSome(t, again.m)
			}
		}
	}
}

// CO3: of several errors the first one that the rule names.
func TestOfErrors(t *testing.T) {
	crossed, flat := [][]int{{0, 2, 1, 3}}, [][]int{{0, 1, 2, 3}}
	long, fits := make([]int32, 4), make([]int32, 3)
	for _, c := range []struct {
		what     string
		n        int
		vertices []int
		rows     [][]int
		w        []int32
		want     api.Errno
	}{
		{"no room, and all else", 0, []int{7}, [][]int{{9}}, long, api.ErrArg},
		{"too much room", most + 1, []int{7}, [][]int{{9, 9}}, nil, api.ErrArg},
		{"more rows than vertices", 3, []int{7, 7}, [][]int{{}, {}, {}, {}}, long, api.ErrForm},
		{"a dart that is none", 3, []int{7}, [][]int{{0, 6}}, long, api.ErrForm},
		{"a dart below 0", 3, []int{0}, [][]int{{0, 1, -1}}, nil, api.ErrForm},
		{"a dart twice", 3, []int{7}, [][]int{{0, 1}, {1}}, long, api.ErrForm},
		{"a dart without its twin", 3, []int{0}, [][]int{{0}}, nil, api.ErrForm},
		{"a vertex that is none", 3, []int{1, 1, 3}, crossed, long, api.ErrRange},
		{"a vertex below 0", 3, []int{0, -1}, crossed, long, api.ErrRange},
		{"a vertex twice", 3, []int{1, 1}, crossed, long, api.ErrSame},
		{"a vertex with darts that is not there", 3, []int{1}, crossed, long, api.ErrStale},
		{"nothing is there", 3, nil, flat, nil, api.ErrStale},
		{"not flat", 3, []int{0}, crossed, long, api.ErrGenus},
		{"not flat, and nothing else", 3, []int{1, 0}, crossed, fits, api.ErrGenus},
		{"too many weights", 3, []int{0}, flat, long, api.ErrLong},
		{"too many weights of nothing", 3, nil, nil, long, api.ErrLong},
		{"as many weights as may be", 3, []int{0}, flat, fits, 0},
		{"nothing", 3, nil, nil, nil, 0},
		{"empty lists", 3, []int{}, [][]int{{}, nil, {}}, []int32{}, 0},
	} {
		m, err := core.Of(c.n, c.vertices, c.rows, c.w)
		checkErr(t, c.what, err, c.want)
		if (m == nil) != (c.want != 0) {
			t.Fatalf("%s: %v beside %v", c.what, m, err)
		}
	}
}

// CO3: an edge for which there is no weight weighs 0, and a weight for which
// there is no edge tells nothing.
func TestOfWeights(t *testing.T) {
	rows := [][]int{{0, 5}, {1, 2}, {3, 4}}
	all := []int32{5, -3, 4, 8}
	for k := range 5 {
		m, err := core.Of(4, []int{2, 0, 1}, rows, all[:k])
		checkErr(t, "Of", err, 0)
		p := plainOf(4, upTo(3), rows, all[:min(k, 3)])
		p.checkAll(t, m)
		_, err = m.Weight(3)
		checkErr(t, "Weight", err, api.ErrStale)
		b := both{t, m, p}
		b.must(b.addVertex(3))
		b.must(b.join(3, alone(3), behind(1, 2), 2))
		p.checkAll(t, m)
	}
}

// Rule 3: what is handed in is neither changed nor kept, and an answer is new.
func TestNotKept(t *testing.T) {
	p := plainOf(4, upTo(4), [][]int{{0, 5}, {1, 2}, {3, 4}}, []int32{5, -3, 4})
	vertices, w := p.vertices(), slices.Clone(p.w)
	var rows [][]int
	for _, row := range p.rows {
		rows = append(rows, slices.Clone(row))
	}
	m, err := core.Of(4, vertices, rows, w)
	checkErr(t, "Of", err, 0)
	if !slices.Equal(vertices, p.vertices()) || !slices.Equal(w, p.w) || !slices.EqualFunc(rows, p.rows, slices.Equal) {
		t.Fatal("Of changed what it was given")
	}
	for v, row := range rows {
		clear(row)
		rows[v], vertices[v], w[v] = nil, 1, 77
	}
	p.checkAll(t, m)
	for d := range 6 {
		list, err := m.Face(d)
		checkErr(t, "Face", err, 0)
		clear(list[:cap(list)])
	}
	p.checkAll(t, m)
}
