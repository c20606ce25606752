package core_test

import (
	"math/rand"
	"slices"
	"testing"

	"plait/api"
	"plait/core"
	"plait/span"
	"plait/sphere"
	"plait/turn"
)

// checkNumbers fails unless Room, Sum, Counts, Live and Has are as the lists
// tell.
func (p *plain) checkNumbers(t *testing.T, m *core.Map) {
	t.Helper()
	check(t, "Room", m.Room(), nil, p.n, 0)
	check(t, "Sum", m.Sum(), nil, p.sum(), 0)
	check(t, "Counts", m.Counts(), nil, p.counts(none), 0)
	for x := -2; x < p.n+2; x++ {
		check(t, "Live", m.Live(x), nil, x >= 0 && x < p.n && p.live[x], 0)
		check(t, "Has", m.Has(x), nil, p.has(x), 0)
	}
}

// checkEdges fails unless all that is told of an edge is as the lists tell.
func (p *plain) checkEdges(t *testing.T, m *core.Map) {
	t.Helper()
	tree := p.tree()
	for e := -2; e < p.n+2; e++ {
		want := p.wrongEdge(e)
		ok := want == 0
		is, err := m.Bridge(e)
		check(t, "Bridge", is, err, ok && p.bridge(e), want)
		is, err = m.Marked(e)
		check(t, "Marked", is, err, ok && slices.Contains(tree, e), want)
		var weight int32
		if ok {
			weight = p.w[e]
		}
		w, err := m.Weight(e)
		check(t, "Weight", w, err, weight, want)
	}
}

// checkDart fails unless all that is told of a dart is as the lists tell.
func (p *plain) checkDart(t *testing.T, m *core.Map, d int) {
	t.Helper()
	want := p.wrongDart(d)
	var next, at int
	var list []int
	if want == 0 {
		next, at, list = p.after(d), p.origin(d), p.walk(d)
	}
	got, err := m.Next(d)
	check(t, "Next", got, err, next, want)
	got, err = m.Origin(d)
	check(t, "Origin", got, err, at, want)
	got, err = m.FaceLen(d)
	check(t, "FaceLen", got, err, len(list), want)
	walk, err := m.Face(d)
	checkErr(t, "Face", err, want)
	if !slices.Equal(walk, list) {
		t.Fatalf("Face(%d): %v, want %v", d, walk, list)
	}
}

func (p *plain) checkConnected(t *testing.T, m *core.Map, a, b int) {
	t.Helper()
	want := p.wrongVertex(a, b)
	is, err := m.Connected(a, b)
	check(t, "Connected", is, err, want == 0 && p.connected(a, b), want)
}

func (p *plain) checkSameFace(t *testing.T, m *core.Map, a, b int) {
	t.Helper()
	want := p.wrongDart(a, b)
	is, err := m.SameFace(a, b)
	check(t, "SameFace", is, err, want == 0 && slices.Contains(p.walk(a), b), want)
}

func (p *plain) checkLegal(t *testing.T, m *core.Map, a, b turn.Corner) {
	t.Helper()
	is, want := p.legal(a, b)
	got, err := m.Legal(a, b)
	check(t, "Legal", got, err, is, want)
}

// checkTrees fails unless CO4 holds: all is flat, the marked edges are those of
// the least trees, and the others those of the greatest ones across the faces,
// as many as a tree of each component's faces has.
func (p *plain) checkTrees(t *testing.T, m *core.Map) {
	t.Helper()
	if !p.flat() {
		t.Fatalf("not flat: %v", p.rows)
	}
	faces := p.faces()
	face := func(d int) int {
		return slices.IndexFunc(faces, func(list []int) bool { return slices.Contains(list, d) })
	}
	var list, across []span.Edge
	var marks, ties []bool
	count := 0
	for _, e := range p.laid() {
		is, err := m.Marked(e)
		checkErr(t, "Marked", err, 0)
		if !is {
			count++
		}
		marks, ties = append(marks, is), append(ties, !is)
		list = append(list, span.Edge{A: p.origin(2 * e), B: p.origin(2*e + 1), W: p.w[e]})
		across = append(across, span.Edge{A: face(2 * e), B: face(2*e + 1), W: p.w[e]})
	}
	least, err := span.Least(p.n, list, marks)
	check(t, "the marked edges: Least", least, err, true, 0)
	greatest, _, err := span.Most(len(faces), across)
	checkErr(t, "Most", err, 0)
	if !slices.Equal(greatest, ties) {
		t.Fatalf("ties %v, want %v: %v, %v", ties, greatest, p.rows, p.w)
	}
	if c := p.counts(none); count != c.F-c.C {
		t.Fatalf("%d ties, want %d", count, c.F-c.C)
	}
}

// checkSome fails unless all but what is told of two is as the lists tell it.
func (p *plain) checkSome(t *testing.T, m *core.Map) {
	t.Helper()
	p.checkNumbers(t, m)
	p.checkEdges(t, m)
	for d := -2; d < 2*p.n+2; d++ {
		p.checkDart(t, m, d)
	}
	p.checkTrees(t, m)
}

// checkPairs fails unless of two that may be anything all is as the lists tell.
func (p *plain) checkPairs(t *testing.T, m *core.Map, r *rand.Rand, many int) {
	t.Helper()
	list, nearby := p.corners(), p.nearby()
	for range many {
		p.checkConnected(t, m, r.Intn(p.n+2)-1, r.Intn(p.n+2)-1)
		p.checkSameFace(t, m, r.Intn(2*p.n+2)-1, r.Intn(2*p.n+2)-1)
		c := nearby[r.Intn(len(nearby))]
		checkErr(t, "Check", m.Check(c), p.wrongCorner(c))
		p.checkLegal(t, m, c, nearby[r.Intn(len(nearby))])
		if len(list) > 0 {
			p.checkLegal(t, m, list[r.Intn(len(list))], list[r.Intn(len(list))])
			p.checkLegal(t, m, list[r.Intn(len(list))], c)
		}
	}
}

// checkAll fails unless all is as the lists tell it.
func (p *plain) checkAll(t *testing.T, m *core.Map) {
	t.Helper()
	p.checkSome(t, m)
	for a := -1; a <= p.n; a++ {
		for b := -1; b <= p.n; b++ {
			p.checkConnected(t, m, a, b)
		}
	}
	for a := -1; a <= 2*p.n; a++ {
		for b := -1; b <= 2*p.n; b++ {
			p.checkSameFace(t, m, a, b)
		}
	}
	for _, a := range p.nearby() {
		checkErr(t, "Check", m.Check(a), p.wrongCorner(a))
		for _, b := range p.corners() {
			p.checkLegal(t, m, a, b)
			p.checkLegal(t, m, b, a)
		}
	}
}

// both is a Map, and the same as plain lists.
type both struct {
	t *testing.T
	m *core.Map
	p *plain
}

func newBoth(t *testing.T, n int) both {
	t.Helper()
	return both{t, made(t, n), newPlain(n)}
}

func (b both) addVertex(v int) api.Errno {
	b.t.Helper()
	want := b.p.addVertex(v)
	checkErr(b.t, "AddVertex", b.m.AddVertex(v), want)
	return want
}

func (b both) dropVertex(v int) api.Errno {
	b.t.Helper()
	want := b.p.dropVertex(v)
	checkErr(b.t, "DropVertex", b.m.DropVertex(v), want)
	return want
}

func (b both) join(e int, from, to turn.Corner, w int32) api.Errno {
	b.t.Helper()
	want := b.p.join(e, from, to, w)
	checkErr(b.t, "Join", b.m.Join(e, from, to, w), want)
	return want
}

func (b both) part(e int) api.Errno {
	b.t.Helper()
	want := b.p.part(e)
	checkErr(b.t, "Part", b.m.Part(e), want)
	return want
}

func (b both) weigh(e int, w int32) api.Errno {
	b.t.Helper()
	want := b.p.weigh(e, w)
	checkErr(b.t, "Weigh", b.m.Weigh(e, w), want)
	return want
}

// must fails unless there was no error.
func (b both) must(err api.Errno) {
	b.t.Helper()
	if err != 0 {
		b.t.Fatalf("the lists answer %v", err)
	}
}

// checkLayers fails unless all is as the layers tell it that go over all of the
// map anew: for maps that are too great for the plain lists.
func checkLayers(t *testing.T, m *core.Map, x *turn.Turns, vertices []int, w []int32) {
	t.Helper()
	want, err := sphere.Count(x, vertices)
	checkErr(t, "Count", err, 0)
	check(t, "Counts", m.Counts(), nil, want, 0)
	flat, err := sphere.Flat(x, vertices)
	check(t, "Flat", flat, err, true, 0)
	var list []span.Edge
	var marks []bool
	for e := range m.Room() {
		check(t, "Has", m.Has(e), nil, x.Has(e), 0)
		if !x.Has(e) {
			continue
		}
		a, err := x.Origin(2 * e)
		checkErr(t, "Origin", err, 0)
		b, err := x.Origin(2*e + 1)
		checkErr(t, "Origin", err, 0)
		list = append(list, span.Edge{A: a, B: b, W: w[e]})
		is, err := m.Marked(e)
		checkErr(t, "Marked", err, 0)
		marks = append(marks, is)
	}
	least, err := span.Least(m.Room(), list, marks)
	check(t, "Least", least, err, true, 0)
	_, sum, err := span.Tree(m.Room(), list)
	check(t, "Sum", m.Sum(), err, sum, 0)
}
