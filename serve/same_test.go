package serve_test

import (
	"bytes"
	"math/rand"
	"slices"
	"testing"

	"plait/answer"
	"plait/api"
	"plait/arena"
	"plait/cmd"
	"plait/load"
	"plait/model"
	"plait/serve"
	"plait/turn"
)

// chanceHandle is a chance handle of a place of a list, mostly one that is live.
func chanceHandle(r *rand.Rand, l []arena.Place) api.Handle {
	if list := live(l); len(list) > 0 && r.Intn(25) > 0 {
		return handleOf(l, list[r.Intn(len(list))])
	}
	x := h(uint32(r.Intn(len(l)+2)), uint32(r.Intn(3)))
	if int(x.At) < len(l) && r.Intn(2) == 0 {
		x.Age = l[x.At].Age + uint32(r.Intn(3)) - 1
	}
	return x
}

// chance is a chance command, mostly one that may be done.
func (p *plain) chance(r *rand.Rand) cmd.Command {
	codes := []int{
		cmd.AddVertex, cmd.AddVertex, cmd.AddVertex, cmd.AddVertex, cmd.DropVertex, cmd.Insert, cmd.Insert, cmd.Insert, cmd.Insert, cmd.Insert,
		cmd.Insert, cmd.Delete, cmd.Delete, cmd.Weigh, cmd.Weigh, 1 + r.Intn(cmd.Codes-1), 1 + r.Intn(cmd.Codes-1), 1 + r.Intn(cmd.Codes-1),
	}
	c := cmd.Command{Code: codes[r.Intn(len(codes))]}
	for i, kind := range kinds[c.Code] {
		l := p.edges
		switch {
		case kind == 'v':
			l = p.vertices
		case kind == 'c':
			c.Sides[i] = r.Intn(3)
			if c.Sides[i] == 0 {
				l = p.vertices
			}
		case c.Code == cmd.SameFace, c.Code == cmd.FaceLen, c.Code == cmd.Face, c.Code == cmd.Next:
			c.Sides[i] = r.Intn(2)
		}
		c.Handles[i] = chanceHandle(r, l)
	}
	switch c.Code {
	case cmd.Insert, cmd.Weigh:
		c.W = int32(r.Intn(9) - 4)
		if r.Intn(9) == 0 {
			c.W = int32(r.Uint32())
		}
	case cmd.Load:
		c.Data = p.chanceData(r)
	}
	if r.Intn(60) == 0 {
		c.Sides[r.Intn(2)] = r.Intn(5) - 1
	}
	return c
}

// chanceData are the bytes of the state, some of them mostly changed.
func (p *plain) chanceData(r *rand.Rand) []byte {
	b := p.ask(cmd.Command{Code: cmd.Dump}).Data
	switch r.Intn(4) {
	case 0:
		return b
	case 1:
		return b[:r.Intn(len(b))]
	}
	b[r.Intn(len(b))] = byte(r.Intn(5))
	return b
}

// unchanged fails unless both services are as they were, behind an error.
func (b both) unchanged(c cmd.Command, before []byte) {
	b.t.Helper()
	if got := b.do(cmd.Command{Code: cmd.Dump}).Data; !bytes.Equal(got, before) {
		b.t.Fatalf("%s was an error, but the state is another one", tell(c))
	}
}

// SV1 to SV3: chance commands; behind each that fails all is as it was.
func TestChance(t *testing.T) {
	r := rand.New(rand.NewSource(21))
	found := map[int]int{}
	for round := range 60 {
		b := newBoth(t, 1+r.Intn(8))
		for range 150 {
			before := b.p.ask(cmd.Command{Code: cmd.Dump}).Data
			c := b.p.chance(r)
			a := b.do(c)
			found[a.Err]++
			if a.Err != 0 {
				b.unchanged(c, before)
			}
			if round%4 == 0 {
				b.checkAll()
			}
		}
		b.checkAll()
	}
	for _, e := range []int{0, 1, 3, 12, 13, 14, 15, 16, 17} {
		if found[e] < 10 {
			t.Fatalf("the error %d came only %d times", e, found[e])
		}
	}
}

// SV3: what is dumped, loaded into a service that was at something else, goes on
// alike, step by step.
func TestLoadedGoesOn(t *testing.T) {
	r := rand.New(rand.NewSource(3))
	for range 40 {
		n := 1 + r.Intn(7)
		a, b := newBoth(t, n), newBoth(t, n)
		for range 60 {
			a.do(a.p.chance(r))
			b.do(b.p.chance(r))
		}
		code := a.do(cmd.Command{Code: cmd.Dump}).Data
		b.script(line{loadOf(code), done})
		for range 60 {
			c := a.p.chance(r)
			want := a.do(c)
			b.script(line{c, want})
		}
		a.checkAll()
		b.checkAll()
	}
}

// P6: no handle is given twice, and one that was taken back is never live again.
func TestHandlesOnce(t *testing.T) {
	r := rand.New(rand.NewSource(6))
	b := newBoth(t, 4)
	given := map[int]map[api.Handle]bool{cmd.AddVertex: {}, cmd.Insert: {}}
	gone := map[int][]api.Handle{}
	for range 3000 {
		c := b.p.chance(r)
		if c.Code == cmd.Load {
			continue
		}
		a := b.do(c)
		switch {
		case a.Err != 0:
		case c.Code == cmd.AddVertex || c.Code == cmd.Insert:
			if x := a.Handles[0]; given[c.Code][x] {
				t.Fatalf("the handle %v is given twice", x)
			}
			given[c.Code][a.Handles[0]] = true
		case c.Code == cmd.DropVertex || c.Code == cmd.Delete:
			gone[c.Code] = append(gone[c.Code], c.Handles[0])
		}
	}
	if len(gone[cmd.DropVertex]) < 50 || len(gone[cmd.Delete]) < 50 {
		t.Fatalf("too few were taken back: %d, %d", len(gone[cmd.DropVertex]), len(gone[cmd.Delete]))
	}
	for code, list := range gone {
		for _, x := range list {
			b.script(line{edgeCommand(code, x), wrong(13)})
		}
	}
}

// Rules 2 and 3.

// roomy is a list with spare room that is written over.
func roomy[T any](l []T, spare T) []T {
	return append(slices.Clone(l), spare, spare, spare)[:len(l)]
}

// spoil writes over a list and its spare room.
func spoil[T any](l []T, with T) {
	for i := range l[:cap(l)] {
		l[:cap(l)][i] = with
	}
}

// What is handed in is neither changed nor kept.
func TestNotKept(t *testing.T) {
	first := triangle(t, 4).do(cmd.Command{Code: cmd.Dump}).Data
	b := newBoth(t, 4)
	data := roomy(first, 77)
	checkAnswer(t, "Load", b.s.Do(loadOf(data)), done)
	checkAnswer(t, "Load", b.p.do(loadOf(first)), done)
	code := roomy(append([]byte{cmd.Load}, first...), 77)
	if got := b.f.Frame(code); !slices.Equal(got, []byte{0}) {
		t.Fatalf("Frame of Load: %v", got)
	}
	if !slices.Equal(data, first) || !slices.Equal(code[1:], first) || data[:len(data)+1][len(data)] != 77 || code[:len(code)+1][len(code)] != 77 {
		t.Fatal("what was handed in was changed")
	}
	spoil(data, 99)
	spoil(code, 99)
	b.checkAll()
}

// An answer is new memory: another one, and what the service goes on with, does not
// hang on it.
func TestAnswersAreNew(t *testing.T) {
	b := triangle(t, 4)
	list := []cmd.Command{
		{Code: cmd.Dump}, dartCommand(cmd.Face, h(0, 1), 0), dartCommand(cmd.Next, h(0, 1), 1), edgeCommand(cmd.Ends, h(2, 1)),
		insert(h(0, 1), 1, h(0, 1), 1, 4), addVertex,
	}
	for _, c := range list {
		got, out := b.do(c), []byte(nil)
		if c.Code != cmd.Insert && c.Code != cmd.AddVertex {
			code, err := cmd.Encode(c)
			checkErr(t, "Encode", err, 0)
			out = b.f.Frame(code)
		}
		spoil(got.Data, 99)
		spoil(got.Darts, answer.Side{Edge: h(9, 9), At: 9})
		spoil(got.Handles, h(9, 9))
		spoil(out, 99)
		b.checkAll()
	}
}

// SV2: State's state is one of its own.
func TestStateIsItsOwn(t *testing.T) {
	b := triangle(t, 4)
	one, err := b.s.State()
	checkErr(t, "State", err, 0)
	other, err := b.s.State()
	checkErr(t, "State", err, 0)
	want := b.p.model()
	checkErr(t, "Drop", one.Edges.Drop(h(0, 1)), 0)
	checkErr(t, "Part", one.Map.Part(0), 0)
	checkErr(t, "Weigh", one.Map.Weigh(1, 99), 0)
	if _, err := one.Vertices.Add(); err != nil {
		t.Fatal(err)
	}
	one.Map = nil
	b.checkAll()
	b.script(
		line{edgeCommand(cmd.Delete, h(2, 1)), done},
		line{addVertex, handles(h(3, 1))},
		line{insert(h(3, 1), 0, h(3, 1), 0, 8), handles(h(2, 2))},
	)
	b.checkAll()
	m, err := other.Model()
	checkErr(t, "Model", err, 0)
	if !sameModel(m, want) {
		t.Fatalf("what was told ahead of commands: %v, want %v", m, want)
	}
	alike(t, other, want)
}

// alike fails unless a state can be gone on with, and is as a model tells: an edge
// is taken away and laid anew.
func alike(t *testing.T, s *load.State, m model.Model) {
	t.Helper()
	checkErr(t, "Part", s.Map.Part(2), 0)
	checkErr(t, "Drop", s.Edges.Drop(h(2, 1)), 0)
	x, err := s.Edges.Add()
	checkErr(t, "Add", err, 0)
	checkErr(t, "Join", s.Map.Join(int(x.At), turn.Corner{Vertex: 2, Behind: 3}, turn.Corner{Vertex: 0, Behind: 0}, 3), 0)
	m.Edges = slices.Clone(m.Edges)
	m.Edges[2].Age++
	got, err := s.Model()
	checkErr(t, "Model", err, 0)
	if !sameModel(got, m) {
		t.Fatalf("Model: %v, want %v", got, m)
	}
}

// Two services have nothing in common.
func TestServicesApart(t *testing.T) {
	a, b := newBoth(t, 3), newBoth(t, 3)
	a.script(line{addVertex, handles(h(0, 1))}, line{insert(h(0, 1), 0, h(0, 1), 0, 4), handles(h(0, 1))})
	b.script(line{cmd.Command{Code: cmd.Counts}, answer.Answer{}}, line{addVertex, handles(h(0, 1))})
	a.checkAll()
	b.checkAll()
	code := a.do(cmd.Command{Code: cmd.Dump}).Data
	b.script(line{loadOf(code), done}, line{edgeCommand(cmd.Delete, h(0, 1)), done})
	a.checkAll()
	b.checkAll()
}

// A Service that New did not answer has no places: nothing can be done with it, but
// it does not panic.
func TestZeroService(t *testing.T) {
	var s serve.Service
	for code := range cmd.Codes {
		c := cmd.Command{Code: code}
		if a := s.Do(c); a.Err == 0 {
			t.Fatalf("%v of no places: %v", c, a)
		}
	}
	if state, err := s.State(); err == nil || state != nil {
		t.Fatalf("State of no places: %v, %v", state, err)
	}
}
