package load_test

import (
	"bytes"
	"fmt"
	"math/rand"
	"slices"
	"testing"

	"plait/api"
	"plait/arena"
	"plait/load"
	"plait/model"
)

// checkLoad fails unless Load answers what is to be answered of bytes; it tells
// whether they are a model's, of so many places.
func checkLoad(t *testing.T, b []byte, n int) bool {
	t.Helper()
	m, err := model.Decode(b)
	if err != nil || m.N != n {
		checkNoLoad(t, b, n)
		return false
	}
	s, err := load.Load(b, n)
	checkErr(t, "Load", err, 0)
	plainOf(m).checkState(t, s)
	again, err := s.Dump()
	checkErr(t, "Dump", err, 0)
	if !bytes.Equal(again, b) {
		t.Fatalf("Dump of Load: %v, want %v", again, b)
	}
	return true
}

// checkNoLoad fails unless bytes are no state's.
func checkNoLoad(t *testing.T, b []byte, n int) {
	t.Helper()
	s, err := load.Load(b, n)
	checkErr(t, fmt.Sprintf("Load of %d bytes, %d places", len(b), n), err, api.ErrLoad)
	if s != nil {
		t.Fatalf("Load of %d bytes, %d places: %v beside an error", len(b), n, s)
	}
}

// LO2: the bytes' N is to be n, be that what it may.
func TestLoadOtherPlaces(t *testing.T) {
	for m := 1; m <= 9; m++ {
		b := slices.Concat(number(uint32(m)), number(0), number(0))
		for n := -2; n <= 12; n++ {
			if checkLoad(t, b, n) != (n == m) {
				t.Fatalf("%d places of a model of %d", n, m)
			}
		}
	}
	for _, b := range [][]byte{triangleBytes(), slices.Concat(number(1), number(0), number(0)), slices.Concat(number(0), number(0), number(0)), nil} {
		for _, n := range append([]int{4, 6, most}, wrongSizes...) {
			checkNoLoad(t, b, n)
		}
	}
	if !checkLoad(t, triangleBytes(), 5) {
		t.Fatal("the triangle is not loaded")
	}
	great := slices.Concat(number(most), number(0), number(0))
	if _, err := load.Load(great, most); err != nil {
		t.Fatalf("the most places: %v", err)
	}
	checkNoLoad(t, great, most-1)
	checkNoLoad(t, slices.Concat(number(most+1), number(0), number(0)), most+1)
}

// LO2: bytes that are no model's: cut, or lengthened, or with a byte made any
// other one.
func TestLoadWrongBytes(t *testing.T) {
	b := triangleBytes()
	for k := range b {
		checkNoLoad(t, b[:k], 5)
		x := slices.Clone(b)
		for v := range 256 {
			x[k] = byte(v)
			checkLoad(t, x, 5)
		}
	}
	for v := range 256 {
		checkNoLoad(t, append(triangleBytes(), byte(v)), 5)
	}
	checkNoLoad(t, slices.Concat(b, b), 5)
	checkNoLoad(t, []byte{}, 5)
}

// LO2: chance bytes, most of them small, so that some are a model's.
func TestLoadChanceBytes(t *testing.T) {
	r := rand.New(rand.NewSource(18))
	right := 0
	for range 20000 {
		n := 1 + r.Intn(2)
		b := slices.Concat(number(uint32(n)), number(1), number(uint32(r.Intn(3))), []byte{byte(r.Intn(3))}, number(1), number(uint32(r.Intn(3))), []byte{byte(r.Intn(3))})
		if r.Intn(2) == 0 {
			b = slices.Concat(b, number(0), number(uint32(r.Intn(2))), number(0), number(uint32(r.Intn(2))), number(r.Uint32()))
		}
		if checkLoad(t, b, 1+r.Intn(2)) {
			right++
		}
	}
	if right < 200 {
		t.Fatalf("only %d are a state's", right)
	}
}

// Rule 3: what is handed in is neither changed nor kept, and answers are new
// memory, spare room too.

// roomy is a list with spare room that is written over.
func roomy[T any](l []T, spare T) []T {
	return append(slices.Clone(l), spare, spare, spare)[:len(l)]
}

// spoil writes over a list and its spare room.
func spoil[T any](l []T, with T) {
	for i := range l[:cap(l)] {
		l[:cap(l)][i] = with
	}
}

func TestModelNotKept(t *testing.T) {
	want, spare := triangle(), model.Edge{W: 77}
	m := model.Model{N: want.N, Vertices: roomy(want.Vertices, live(77)), Edges: roomy(want.Edges, live(77)), L: roomy(want.L, spare)}
	s, err := load.Of(m)
	checkErr(t, "Of", err, 0)
	if _, err := s.Edges.Add(); err != nil {
		t.Fatal(err)
	}
	checkErr(t, "Join", s.Map.Join(2, alone(4), alone(4), 9), 0)
	checkErr(t, "Weigh", s.Map.Weigh(0, 99), 0)
	if !same(m, want) {
		t.Fatalf("what was handed in: %v", m)
	}
	if v, e := len(m.Vertices), len(m.Edges); m.Vertices[:v+1][v] != live(77) || m.Edges[:e+1][e] != live(77) || m.L[:e+1][e] != spare {
		t.Fatal("the spare room of what was handed in was changed")
	}
	b := both{t, s, plainOf(want)}
	b.p.do(step{kind: "join", a: alone(4), b: alone(4), w: 9})
	b.p.w[0] = 99
	spoil(m.Vertices, arena.Place{})
	spoil(m.Edges, arena.Place{})
	spoil(m.L, spare)
	b.p.checkState(t, s)
}

func TestBytesNotKept(t *testing.T) {
	b := roomy(triangleBytes(), 77)
	s, err := load.Load(b, 5)
	checkErr(t, "Load", err, 0)
	other, err := load.Load(b, 5)
	checkErr(t, "Load", err, 0)
	checkNoLoad(t, b, 4)
	if !bytes.Equal(b, triangleBytes()) || b[:len(b)+1][len(b)] != 77 {
		t.Fatalf("what was handed in: %v", b)
	}
	spoil(b, 99)
	p := plainOf(triangle())
	p.checkState(t, s)
	// Two states of one list have nothing in common.
	for _, x := range []step{{kind: "part", at: 1}, {kind: "drop", at: 4}, {kind: "weigh", at: 0, w: 5}} {
		_, err := do(s, x)
		checkErr(t, x.kind, err, 0)
	}
	p.checkState(t, other)
}

func TestAnswersAreNew(t *testing.T) {
	b := of(t, triangle())
	m, err := b.s.Model()
	checkErr(t, "Model", err, 0)
	code, err := b.s.Dump()
	checkErr(t, "Dump", err, 0)
	other, err := b.s.Model()
	checkErr(t, "Model", err, 0)
	spoil(m.Vertices, worn())
	if !slices.Equal(m.Edges, triangle().Edges) || !slices.Equal(m.L, triangle().L) {
		t.Fatalf("the edges hang on the vertices: %v", m)
	}
	spoil(m.Edges, worn())
	spoil(m.L, model.Edge{W: 77})
	spoil(code, 99)
	if !same(other, triangle()) {
		t.Fatalf("another answer: %v", other)
	}
	b.p.checkState(t, b.s)
	one := &load.State{Vertices: b.s.Vertices, Edges: b.s.Vertices, Map: b.s.Map}
	checkNothing(t, "the vertices as edges", one, api.ErrLoad)
	b.p.checkState(t, b.s)
}

// LO2: what was told of a state is not changed by what is done with it.
func TestToldBefore(t *testing.T) {
	b := of(t, triangle())
	m, err := b.s.Model()
	checkErr(t, "Model", err, 0)
	code, err := b.s.Dump()
	checkErr(t, "Dump", err, 0)
	r := rand.New(rand.NewSource(3))
	for range 50 {
		_, _ = b.do(b.p.chance(r))
	}
	if !same(m, triangle()) || !bytes.Equal(code, triangleBytes()) {
		t.Fatalf("what was told: %v, %v", m, code)
	}
}
