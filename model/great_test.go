package model_test

import (
	"bytes"
	"slices"
	"testing"

	"plait/arena"
	"plait/model"
)

// hoop is a model of as many vertices as edges, each joined with the next one, all
// round.
func hoop(n int) model.Model {
	m := model.Model{N: n, Vertices: lives(n), Edges: lives(n), L: make([]model.Edge, n)}
	for e := range n {
		to := (e + 1) % n
		before := (e + n - 1) % n
		m.L[e] = edge(uint32(e), uint32(2*before+1), uint32(to), uint32(2*to), int32(-e))
	}
	return m
}

// bunch is a model of so many loops, side by side round one vertex.
func bunch(n int) model.Model {
	m := model.Model{N: n, Vertices: lives(1), Edges: lives(n), L: make([]model.Edge, n)}
	for e := range n {
		m.L[e] = edge(0, uint32(2*e+1), 0, uint32((2*e+2)%(2*n)), int32(e))
	}
	return m
}

// checkGreat fails unless a great model may be; what stands round its vertices is
// told by a function.
func checkGreat(t *testing.T, m model.Model, row func(v int) []int) []byte {
	t.Helper()
	rows, err := model.Round(m)
	checkErr(t, "Round", err, 0)
	if len(rows) != len(m.Vertices) {
		t.Fatalf("Round: %d lists, want %d", len(rows), len(m.Vertices))
	}
	for v := range rows {
		if want := row(v); !slices.Equal(rows[v], want) {
			t.Fatalf("Round of %d: not as it is", v)
		}
	}
	b, err := model.Encode(m)
	checkErr(t, "Encode", err, 0)
	back, err := model.Decode(b)
	checkErr(t, "Decode", err, 0)
	if !same(back, m) {
		t.Fatal("Decode of Encode: another model")
	}
	return b
}

// fails fails unless a great model may not be.
func fails(t *testing.T, what string, m model.Model) {
	t.Helper()
	checkErr(t, what, model.Check(m), 17)
	rows, err := model.Round(m)
	checkErr(t, what, err, 17)
	b, err := model.Encode(m)
	checkErr(t, what, err, 17)
	if len(rows) > 0 || len(b) > 0 {
		t.Fatalf("%s: something beside an error", what)
	}
}

// MD1 to MD3: all vertices and all edges that there may be.
func TestGreatHoop(t *testing.T) {
	m := hoop(most)
	checkErr(t, "Check", model.Check(m), 0)
	b := checkGreat(t, m, func(v int) []int {
		if v == 0 {
			return []int{0, 2*most - 1}
		}
		return []int{2*v - 1, 2 * v}
	})
	if want := 12 + 5*most + 25*most; len(b) != want {
		t.Fatalf("Encode: %d bytes, want %d", len(b), want)
	}
	last := b[len(b)-25:]
	if want := slices.Concat(number(1), []byte{1}, number(most-1), number(2*most-3), number(0), number(0), number(1<<32-(most-1))); !bytes.Equal(last, want) {
		t.Fatalf("the last edge: %v, want %v", last, want)
	}
	checkNoDecode(t, b[:len(b)-1])
	checkNoDecode(t, append(slices.Clone(b), 0))
	few := slices.Clone(b)
	copy(few, number(most-1))
	checkNoDecode(t, few)

	m.L[most-1].Next[0], m.L[most-1].Next[1] = m.L[most-1].Next[1], m.L[most-1].Next[0]
	fails(t, "darts of other vertices", m)
	m.L[most-1] = model.Edge{}
	fails(t, "an edge of nothing", m)
}

// MD1 to MD3: all darts round one vertex.
func TestGreatBunch(t *testing.T) {
	m := bunch(most)
	all := make([]int, 2*most)
	for d := range all {
		all[d] = d
	}
	checkGreat(t, m, func(int) []int { return all })

	// The last two loops cross.
	k := uint32(2*most - 4)
	x, y := &m.L[most-2], &m.L[most-1]
	x.Next, y.Next = [2]uint32{k + 2, k + 3}, [2]uint32{k + 1, 0}
	fails(t, "loops that cross", m)
	x.Next, y.Next = [2]uint32{k + 1, 0}, [2]uint32{k + 3, k + 2}
	fails(t, "two cycles", m)
}

// MD1 to MD3: each vertex a part of its own; and all places worn, and free.
func TestGreatParts(t *testing.T) {
	none := func(int) []int { return nil }
	m := model.Model{N: most, Vertices: lives(most)}
	checkGreat(t, m, none)
	loops := model.Model{N: most, Vertices: lives(most), Edges: lives(most), L: make([]model.Edge, most)}
	for e := range loops.L {
		at, d := uint32(most-1-e), uint32(2*e)
		loops.L[e] = edge(at, d+1, at, d, 0)
	}
	checkGreat(t, loops, func(v int) []int {
		d := 2 * (most - 1 - v)
		return []int{d, d + 1}
	})
	gone := slices.Repeat([]arena.Place{worn()}, most)
	checkGreat(t, model.Model{N: most, Vertices: gone, Edges: gone, L: make([]model.Edge, most)}, none)
	old := slices.Repeat([]arena.Place{free(1<<32 - 2)}, most)
	checkGreat(t, model.Model{N: most, Vertices: old, Edges: old, L: make([]model.Edge, most)}, none)
	fails(t, "a vertex too many", model.Model{N: most, Vertices: lives(most + 1)})
	fails(t, "a place too many", model.Model{N: most + 1, Vertices: lives(most + 1)})
	fails(t, "an edge too many", model.Model{N: most, Edges: append(gone, worn()), L: make([]model.Edge, most+1)})
}

// MD1: a small model in a great room, and with places far apart.
func TestFarApart(t *testing.T) {
	checkGreat(t, model.Model{N: most}, nil)
	m := model.Model{N: most, Vertices: make([]arena.Place, most), Edges: make([]arena.Place, most), L: make([]model.Edge, most)}
	m.Vertices[most-1], m.Edges[most-1] = live(1), live(1)
	m.L[most-1] = edge(most-1, 2*most-1, most-1, 2*most-2, 5)
	checkGreat(t, m, func(v int) []int {
		if v < most-1 {
			return nil
		}
		return []int{2*most - 2, 2*most - 1}
	})
	m.L[most-1].Next = [2]uint32{2*most - 2, 2*most - 1}
	fails(t, "two cycles", m)
}
