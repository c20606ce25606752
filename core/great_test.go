package core_test

import (
	"math/rand"
	"slices"
	"testing"

	"plait/api"
	"plait/core"
	"plait/face"
	"plait/kin"
	"plait/sphere"
	"plait/turn"
)

// great is a Map, and the same as turns that are gone over anew: for maps that
// are too great for the plain lists.
type great struct {
	t *testing.T
	m *core.Map
	x *turn.Turns
	w []int32
}

// newGreat has laid all vertices that there is room for.
func newGreat(t *testing.T, n int) great {
	t.Helper()
	x, err := turn.New(n, n)
	checkErr(t, "New", err, 0)
	m := made(t, n)
	for v := range n {
		checkErr(t, "AddVertex", m.AddVertex(v), 0)
	}
	return great{t, m, x, make([]int32, n)}
}

// corner is the one that looks into a dart's face where the dart stands, or
// that of a vertex without darts, if the dart is not laid.
func (g great) corner(d int) turn.Corner {
	ahead, err := g.x.Prev(d)
	if err != nil {
		return g.at(d / 2)
	}
	v, err := g.x.Origin(d)
	checkErr(g.t, "Origin", err, 0)
	return behind(v, ahead)
}

// at is a corner of a vertex.
func (g great) at(v int) turn.Corner {
	row, err := g.x.Round(v)
	checkErr(g.t, "Round", err, 0)
	if len(row) == 0 {
		return alone(v)
	}
	return behind(v, row[len(row)/2])
}

// near is a dart some places behind one, round its face.
func (g great) near(d, places int) int {
	for range places {
		next, err := face.Next(g.x, d)
		if err != nil {
			return d
		}
		d = next
	}
	return d
}

// change lays an edge that is not laid, or takes it away, or weighs it.
func (g great) change(r *rand.Rand) {
	g.t.Helper()
	n := g.m.Room()
	e, w := r.Intn(n), int32(r.Intn(n)-n/2)
	switch {
	case g.x.Has(e) && r.Intn(3) > 0:
		checkErr(g.t, "Weigh", g.m.Weigh(e, w), 0)
	case g.x.Has(e):
		checkErr(g.t, "Part", g.m.Part(e), 0)
		checkErr(g.t, "Lift", g.x.Lift(e), 0)
	default:
		d := r.Intn(2 * n)
		other := r.Intn(2 * n)
		if r.Intn(4) > 0 {
			other = g.near(d, r.Intn(9))
		}
		g.join(e, g.corner(d), g.corner(other), w)
	}
	g.w[e] = w
}

// join lays an edge, if that is legal, as layer 12 tells it.
func (g great) join(e int, a, b turn.Corner, w int32) {
	g.t.Helper()
	legal, err := sphere.Legal(g.x, a, b)
	checkErr(g.t, "Legal", err, 0)
	is, err := g.m.Legal(a, b)
	check(g.t, "Legal", is, err, legal, 0)
	if !legal {
		checkErr(g.t, "Join", g.m.Join(e, a, b, w), api.ErrGenus)
		return
	}
	checkErr(g.t, "Join", g.m.Join(e, a, b, w), 0)
	checkErr(g.t, "Lay", g.x.Lay(e, a, b), 0)
}

// check fails unless all is as the layers tell it that go over all anew.
func (g great) check(r *rand.Rand) {
	g.t.Helper()
	n := g.m.Room()
	checkLayers(g.t, g.m, g.x, upTo(n), g.w)
	groups, bridges := kin.Groups(g.x), kin.Bridges(g.x)
	for range 200 {
		a, b := r.Intn(n), r.Intn(n)
		is, err := g.m.Connected(a, b)
		check(g.t, "Connected", is, err, groups[a] == groups[b], 0)
		if !g.x.Has(a) || !g.x.Has(b) {
			continue
		}
		is, err = g.m.Bridge(a)
		check(g.t, "Bridge", is, err, slices.Contains(bridges, a), 0)
		want, err := face.Walk(g.x, 2*a)
		checkErr(g.t, "Walk", err, 0)
		is, err = g.m.SameFace(2*a, 2*b+1)
		check(g.t, "SameFace", is, err, slices.Contains(want, 2*b+1), 0)
		size, err := g.m.FaceLen(2 * a)
		check(g.t, "FaceLen", size, err, len(want), 0)
	}
}

// P1, P3: a map of some hundred vertices and edges, in a long run.
func TestGreat(t *testing.T) {
	r := rand.New(rand.NewSource(160))
	for _, n := range []int{60, 300, 1000} {
		g := newGreat(t, n)
		for i := range 12000 {
			g.change(r)
			if i%600 == 0 {
				g.check(r)
			}
		}
		g.check(r)
	}
}

// cycle is a map of n vertices and n edges, all of them round one cycle.
func cycle(t *testing.T, n int, weight func(e int) int32) *core.Map {
	t.Helper()
	rows, w := make([][]int, n), make([]int32, n)
	for v := range n {
		rows[v] = []int{2 * v, (2*v + 2*n - 1) % (2 * n)}
		w[v] = weight(v)
	}
	m, err := core.Of(n, upTo(n), rows, w)
	checkErr(t, "Of", err, 0)
	return m
}

// Of great faces, and of great trees, each call but Face needs few steps: to go
// over all of them would take some hours.
func TestAtOnce(t *testing.T) {
	const n = 1 << 17
	m := cycle(t, n, func(e int) int32 { return int32(e) })
	sum := int64(n-1) * (n - 2) / 2
	for i := range 1 << 14 {
		e := i * 7 % (n - 1)
		check(t, "Sum", m.Sum(), nil, sum, 0)
		checkErr(t, "Part", m.Part(e), 0)
		check(t, "Sum", m.Sum(), nil, sum-int64(e)+n-1, 0)
		is, err := m.Bridge(n - 1)
		check(t, "Bridge", is, err, true, 0)
		size, err := m.FaceLen((2*e + 2) % (2 * n))
		check(t, "FaceLen", size, err, 2*n-2, 0)
		from, to := (e+n-1)%n, e+1
		is, err = m.Legal(behind(e, 2*from+1), behind(to, 2*to))
		check(t, "Legal", is, err, true, 0)
		checkErr(t, "Join", m.Join(e, behind(e, 2*from+1), behind(to, 2*to), int32(e)), 0)
		size, err = m.FaceLen(2 * e)
		check(t, "FaceLen", size, err, n, 0)
		is, err = m.SameFace(2*e, 2*to+1)
		check(t, "SameFace", is, err, false, 0)
		is, err = m.Connected(e, to)
		check(t, "Connected", is, err, true, 0)
		checkErr(t, "Weigh", m.Weigh(e, n), 0)
		is, err = m.Marked(e)
		check(t, "Marked", is, err, false, 0)
		checkErr(t, "Weigh", m.Weigh(e, int32(e)), 0)
		check(t, "Counts", m.Counts(), nil, sphere.Counts{V: n, E: n, F: 2, C: 1}, 0)
	}
}

// The most vertices and edges that there may be, all of them used: rays that
// stand round one vertex, and a loop round them all.
func TestMost(t *testing.T) {
	m := made(t, most)
	for v := range most {
		if err := m.AddVertex(v); err != nil {
			t.Fatalf("AddVertex(%d): %v", v, err)
		}
	}
	last := alone(0)
	for e := range most - 1 {
		if err := m.Join(e, last, alone(e+1), int32(-e)); err != nil {
			t.Fatalf("Join(%d): %v", e, err)
		}
		last = behind(0, 2*e)
	}
	check(t, "Counts", m.Counts(), nil, sphere.Counts{V: most, E: most - 1, F: 1, C: 1}, 0)
	size, err := m.FaceLen(0)
	check(t, "FaceLen", size, err, 2*(most-1), 0)
	checkErr(t, "Join of the last", m.Join(most-1, behind(most-1, 2*most-3), behind(1, 1), -7), 0)
	check(t, "Counts", m.Counts(), nil, sphere.Counts{V: most, E: most, F: 2, C: 1}, 0)
	is, err := m.Marked(0)
	check(t, "Marked", is, err, false, 0)
	sum := -int64(most-1) * (most - 2) / 2
	check(t, "Sum", m.Sum(), nil, sum-7, 0)
	checkErr(t, "Part", m.Part(most-2), 0)
	check(t, "Sum", m.Sum(), nil, sum-7+most-2, 0)
	checkErr(t, "Part", m.Part(most-1), 0)
	check(t, "Counts", m.Counts(), nil, sphere.Counts{V: most, E: most - 2, F: 2, C: 2}, 0)
	checkErr(t, "DropVertex", m.DropVertex(most-1), 0)
	checkErr(t, "DropVertex", m.DropVertex(most-2), api.ErrBusy)
}

// CO3: so much made at once.
func TestOfMost(t *testing.T) {
	m := cycle(t, most, func(e int) int32 { return 1 })
	check(t, "Counts", m.Counts(), nil, sphere.Counts{V: most, E: most, F: 2, C: 1}, 0)
	check(t, "Sum", m.Sum(), nil, most-1, 0)
	is, err := m.Marked(most - 1)
	check(t, "Marked", is, err, false, 0)
	checkErr(t, "Part", m.Part(5), 0)
	is, err = m.Marked(most - 1)
	check(t, "Marked", is, err, true, 0)
	size, err := m.FaceLen(2*most - 1)
	check(t, "FaceLen", size, err, 2*(most-1), 0)
}
