package load_test

import (
	"fmt"
	"math"
	"math/rand"
	"slices"
	"testing"

	"plait/api"
	"plait/arena"
	"plait/load"
	"plait/model"
	"plait/turn"
)

// step is a thing that is done with a state.
type step struct {
	kind string
	at   int
	a, b turn.Corner
	w    int32
}

// do does a step, in an arena and in the map alike.
func do(s *load.State, x step) (api.Handle, error) {
	switch x.kind {
	case "add":
		h, err := s.Vertices.Add()
		if err != nil {
			return h, err
		}
		return h, s.Map.AddVertex(int(h.At))
	case "drop":
		if err := s.Map.DropVertex(x.at); err != nil {
			return api.Handle{}, err
		}
		h, err := s.Vertices.Handle(x.at)
		if err != nil {
			return h, err
		}
		return h, s.Vertices.Drop(h)
	case "join":
		return join(s, x)
	case "part":
		if err := s.Map.Part(x.at); err != nil {
			return api.Handle{}, err
		}
		h, err := s.Edges.Handle(x.at)
		if err != nil {
			return h, err
		}
		return h, s.Edges.Drop(h)
	}
	return api.Handle{}, s.Map.Weigh(x.at, x.w)
}

// join lays an edge in the lowest free place.
func join(s *load.State, x step) (api.Handle, error) {
	legal, err := s.Map.Legal(x.a, x.b)
	if err != nil {
		return api.Handle{}, err
	}
	if !legal {
		return api.Handle{}, api.ErrGenus
	}
	h, err := s.Edges.Add()
	if err != nil {
		return h, err
	}
	return h, s.Map.Join(int(h.At), x.a, x.b, x.w)
}

// do does a step that may be done; the handle that it gives or takes back.
func (p *plain) do(x step) api.Handle {
	var h api.Handle
	switch x.kind {
	case "add":
		p.vertices, h, _ = give(p.vertices, p.n)
	case "drop":
		h = api.Handle{Age: p.vertices[x.at].Age, At: uint32(x.at)}
		takeBack(p.vertices, x.at)
	case "join":
		p.edges, h, _ = give(p.edges, p.n)
		first := 2 * int(h.At)
		p.put(first, x.a)
		if x.b == alone(x.a.Vertex) {
			x.b.Behind = first
		}
		p.put(first+1, x.b)
		p.w[h.At] = x.w
	case "part":
		h = api.Handle{Age: p.edges[x.at].Age, At: uint32(x.at)}
		takeBack(p.edges, x.at)
		for v, row := range p.rows {
			p.rows[v] = slices.DeleteFunc(row, func(d int) bool { return d/2 == x.at })
		}
	default:
		p.w[x.at] = x.w
	}
	return h
}

// chance is a chance step, mostly one that may be done.
func (p *plain) chance(r *rand.Rand) step {
	x := step{at: r.Intn(p.n), w: int32(r.Intn(9) - 4)}
	if r.Intn(9) == 0 {
		x.w = int32(r.Uint32())
	}
	switch k := r.Intn(20); {
	case k < 5:
		x.kind = "add"
	case k < 7:
		x.kind = "drop"
	case k < 9:
		x.kind = "part"
	case k < 12:
		x.kind = "weigh"
	default:
		x.kind = "join"
		if list := p.corners(); len(list) > 0 {
			x.a, x.b = list[r.Intn(len(list))], list[r.Intn(len(list))]
		}
	}
	return x
}

// both is a state, and the same as plain lists.
type both struct {
	t *testing.T
	s *load.State
	p *plain
}

func newBoth(t *testing.T, n int) both {
	t.Helper()
	s, err := load.New(n)
	checkErr(t, "New", err, 0)
	return both{t, s, newPlain(n)}
}

// of is what Of makes of a model that may be.
func of(t *testing.T, m model.Model) both {
	t.Helper()
	s, err := load.Of(m)
	checkErr(t, "Of", err, 0)
	return both{t, s, plainOf(m)}
}

// again is what Load makes of what is dumped.
func (b both) again() both {
	b.t.Helper()
	code, err := b.s.Dump()
	checkErr(b.t, "Dump", err, 0)
	s, err := load.Load(code, b.p.n)
	checkErr(b.t, "Load", err, 0)
	return both{b.t, s, plainOf(b.p.model())}
}

// do does a step with both, if it may be done.
func (b both) do(x step) (api.Handle, error) {
	b.t.Helper()
	h, err := do(b.s, x)
	if err != nil {
		return h, err
	}
	if want := b.p.do(x); h != want {
		b.t.Fatalf("%v: the handle %v, want %v", x, h, want)
	}
	return h, nil
}

// told is all that a state answers to what can be asked of it.
func told(s *load.State) string {
	m, err := s.Model()
	b, fault := s.Dump()
	out := fmt.Sprint(m, err, b, fault, s.Map.Room(), s.Map.Counts(), s.Map.Sum())
	out += fmt.Sprint(s.Vertices.Len(), s.Vertices.Full(), s.Vertices.All(), s.Edges.Len(), s.Edges.Full(), s.Edges.All())
	n := s.Map.Room()
	list := []turn.Corner{alone(0)}
	for d := range 2 * n {
		at, err := s.Map.Origin(d)
		next, fault := s.Map.Next(d)
		out += fmt.Sprint(at, err, next, fault)
		face, err := s.Map.Face(d)
		size, fault := s.Map.FaceLen(d)
		out += fmt.Sprint(face, err, size, fault)
		list = append(list, behind(at, d), alone(d/2))
		for other := range 2 * n {
			is, err := s.Map.SameFace(d, other)
			out += fmt.Sprint(is, err)
		}
	}
	for x := range n {
		h, err := s.Vertices.Handle(x)
		other, fault := s.Edges.Handle(x)
		out += fmt.Sprint(h, err, other, fault, s.Map.Live(x), s.Map.Has(x))
		bridge, err := s.Map.Bridge(x)
		marked, fault := s.Map.Marked(x)
		w, wrong := s.Map.Weight(x)
		out += fmt.Sprint(bridge, err, marked, fault, w, wrong)
		for other := range n {
			is, err := s.Map.Connected(x, other)
			out += fmt.Sprint(is, err)
		}
	}
	for _, a := range list {
		for _, b := range list {
			is, err := s.Map.Legal(a, b)
			out += fmt.Sprint(is, err)
		}
	}
	return out
}

// checkAlike fails unless two states answer alike to all that can be asked.
func checkAlike(t *testing.T, a, b *load.State) {
	t.Helper()
	if x, y := told(a), told(b); x != y {
		t.Fatalf("two states:\n%s\n%s", x, y)
	}
}

// LO2: whatever is added and taken away, in an arena and the map alike, Model and
// Dump tell it.
func TestLongRun(t *testing.T) {
	r := rand.New(rand.NewSource(18))
	for n := 1; n <= 9; n++ {
		b := newBoth(t, n)
		done := 0
		for range 400 {
			if _, err := b.do(b.p.chance(r)); err == nil {
				done++
				b.p.checkTold(t, b.s)
			}
		}
		b.p.checkState(t, b.s)
		if done < 80 {
			t.Fatalf("only %d steps were done", done)
		}
	}
}

// LO3: Load of Dump, and Of of Model, go on as the state does: all that is done
// with them is answered alike, and comes to the same.
func TestGoesOn(t *testing.T) {
	r := rand.New(rand.NewSource(81))
	for n := 1; n <= 6; n++ {
		for range 25 {
			first := newBoth(t, n)
			for range r.Intn(60) {
				_, _ = first.do(first.p.chance(r))
			}
			others := []both{first.again(), of(t, first.p.model())}
			for _, b := range others {
				b.p.checkState(t, b.s)
				checkAlike(t, first.s, b.s)
			}
			for range 25 {
				first.doAlike(r, others...)
			}
			for _, b := range others {
				b.p.checkState(t, b.s)
				checkAlike(t, first.s, b.s)
			}
		}
	}
}

// doAlike does one chance step with all, and fails unless it is answered alike.
func (b both) doAlike(r *rand.Rand, others ...both) {
	b.t.Helper()
	x := b.p.chance(r)
	want, wantErr := b.do(x)
	for _, other := range others {
		h, err := other.do(x)
		if h != want || err != wantErr {
			b.t.Fatalf("%v: %v and %v, want %v and %v", x, h, err, want, wantErr)
		}
		other.p.checkTold(b.t, other.s)
	}
}

// LO3: loaded again ahead of each step, a state goes on as one that never was.
func TestLoadedEachTime(t *testing.T) {
	r := rand.New(rand.NewSource(188))
	for n := 1; n <= 5; n++ {
		first := newBoth(t, n)
		other := newBoth(t, n)
		for range 150 {
			other = other.again()
			first.doAlike(r, other)
		}
		checkAlike(t, first.s, other.s)
	}
}

// LO3: places that are near their last age grow old and wear, as they would have;
// what was taken back is not found again.
func TestAgesGoOn(t *testing.T) {
	for _, age := range []uint32{1, 2, 255, 256, 1 << 16, 1 << 31, lastAge - 2, lastAge - 1, lastAge} {
		first := of(t, model.Model{
			N:        3,
			Vertices: []arena.Place{live(age), worn(), live(4)},
			Edges:    []arena.Place{live(age), live(1), worn()},
			L:        []model.Edge{edge(0, 1, 0, 0, 5), edge(2, 3, 2, 2, 5), {}},
		})
		want, wantErr := api.Handle{Age: age + 1}, api.Errno(0)
		if age == lastAge {
			want, wantErr = api.Handle{}, api.ErrFull
		}
		for _, b := range []both{first, first.again()} {
			for _, x := range []step{{kind: "part"}, {kind: "drop"}} {
				_, err := b.do(x)
				checkErr(t, x.kind, err, 0)
			}
			b.p.checkState(t, b.s)
			for _, x := range []step{{kind: "add"}, {kind: "join", a: behind(2, 2), b: behind(2, 2), w: math.MinInt32}} {
				h, err := b.do(x)
				checkErr(t, x.kind, err, wantErr)
				if h != want {
					t.Fatalf("%s: %v, want %v", x.kind, h, want)
				}
			}
			b.p.checkState(t, b.s)
			_, err := b.s.Vertices.Find(api.Handle{Age: age})
			checkErr(t, "Find of the vertex taken back", err, api.ErrStale)
			_, err = b.s.Edges.Find(api.Handle{Age: age})
			checkErr(t, "Find of the edge taken back", err, api.ErrStale)
		}
	}
}
