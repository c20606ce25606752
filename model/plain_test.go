package model_test

import (
	"bytes"
	"errors"
	"math"
	"slices"
	"testing"

	"plait/api"
	"plait/arena"
	"plait/model"
)

// most is how many places there are at most, and lastAge the age of a place that
// is not given again.
const (
	most    = 1 << 20
	lastAge = math.MaxUint32
)

// checkErr fails unless err is the number want (0: nil), as errors.As finds it.
func checkErr(t *testing.T, what string, err error, want api.Errno) {
	t.Helper()
	if want == 0 {
		if err != nil {
			t.Fatalf("%s: error %v, want none", what, err)
		}
		return
	}
	if !isErr(err, want) {
		t.Fatalf("%s: error %v, want %v", what, err, want)
	}
}

// isErr tells whether errors.As finds that number.
func isErr(err error, want api.Errno) bool {
	var e api.Errno
	return errors.As(err, &e) && e == want
}

// live, free and worn are places of an age.
func live(age uint32) arena.Place { return arena.Place{Age: age, Is: 1} }
func free(age uint32) arena.Place { return arena.Place{Age: age} }
func worn() arena.Place           { return arena.Place{Age: lastAge, Is: 2} }

// lives are so many live places of the age 1.
func lives(n int) []arena.Place { return slices.Repeat([]arena.Place{live(1)}, n) }

// same tells whether two models are one.
func same(a, b model.Model) bool {
	return a.N == b.N && slices.Equal(a.Vertices, b.Vertices) && slices.Equal(a.Edges, b.Edges) && slices.Equal(a.L, b.L)
}

// clone is a model of its own memory.
func clone(m model.Model) model.Model {
	return model.Model{N: m.N, Vertices: slices.Clone(m.Vertices), Edges: slices.Clone(m.Edges), L: slices.Clone(m.L)}
}

// The chapter's words, one by one, gone over anew each time.

// mayBe tells whether a model may be.
func mayBe(m model.Model) bool {
	return placesMayBe(m.N, m.Vertices) && placesMayBe(m.N, m.Edges) && len(m.L) == len(m.Edges) &&
		othersZero(m) && dartsStand(m) && noneTwice(m) && oneCycleEach(m) && onSpheres(m)
}

func placesMayBe(n int, l []arena.Place) bool {
	if n < 1 || n > most || len(l) > n {
		return false
	}
	for i, p := range l {
		switch p.Is {
		case 0:
			if p.Age == lastAge || i == len(l)-1 && p.Age == 0 {
				return false
			}
		case 1:
			if p.Age == 0 {
				return false
			}
		case 2:
			if p.Age != lastAge {
				return false
			}
		default:
			return false
		}
	}
	return true
}

func isLive(l []arena.Place, at int) bool { return at >= 0 && at < len(l) && l[at].Is == 1 }

func from(m model.Model, d int) int { return int(m.L[d/2].From[d%2]) }
func next(m model.Model, d int) int { return int(m.L[d/2].Next[d%2]) }

// darts are those of the live edges, ascending.
func darts(m model.Model) []int {
	var out []int
	for e := range m.Edges {
		if isLive(m.Edges, e) {
			out = append(out, 2*e, 2*e+1)
		}
	}
	return out
}

func othersZero(m model.Model) bool {
	for e, x := range m.L {
		zero := x.From[0] == 0 && x.From[1] == 0 && x.Next[0] == 0 && x.Next[1] == 0 && x.W == 0
		if !isLive(m.Edges, e) && !zero {
			return false
		}
	}
	return true
}

func dartsStand(m model.Model) bool {
	for _, d := range darts(m) {
		if !isLive(m.Vertices, from(m, d)) || !isLive(m.Edges, next(m, d)/2) || from(m, next(m, d)) != from(m, d) {
			return false
		}
	}
	return true
}

func noneTwice(m model.Model) bool {
	var seen []int
	for _, d := range darts(m) {
		if slices.Contains(seen, next(m, d)) {
			return false
		}
		seen = append(seen, next(m, d))
	}
	return true
}

// round are the darts from one on till it comes again, by what is behind each.
func round(d int, behind func(int) int) []int {
	out := []int{d}
	for x := behind(d); x != d; x = behind(x) {
		out = append(out, x)
	}
	return out
}

// vertexRound and faceRound are the darts round a dart's vertex, and its face.
func vertexRound(m model.Model, d int) []int {
	return round(d, func(d int) int { return next(m, d) })
}

func faceRound(m model.Model, d int) []int {
	return round(d, func(d int) int { return next(m, twin(d)) })
}

func twin(d int) int {
	if d%2 == 0 {
		return d + 1
	}
	return d - 1
}

func oneCycleEach(m model.Model) bool {
	for _, d := range darts(m) {
		for _, other := range darts(m) {
			if from(m, other) == from(m, d) && !slices.Contains(vertexRound(m, d), other) {
				return false
			}
		}
	}
	return true
}

// component are the vertices that edges join with one.
func component(m model.Model, v int) []int {
	out := []int{v}
	for i := 0; i < len(out); i++ {
		for _, d := range darts(m) {
			if to := from(m, twin(d)); from(m, d) == out[i] && !slices.Contains(out, to) {
				out = append(out, to)
			}
		}
	}
	return out
}

func onSpheres(m model.Model) bool {
	for v := range m.Vertices {
		if isLive(m.Vertices, v) && euler(m, component(m, v)) != 2 {
			return false
		}
	}
	return true
}

// euler is a component's vertices, less its edges, and its faces.
func euler(m model.Model, part []int) int {
	n := len(part)
	if !slices.ContainsFunc(darts(m), func(d int) bool { return from(m, d) == part[0] }) {
		return n + 1
	}
	for _, d := range darts(m) {
		if !slices.Contains(part, from(m, d)) {
			continue
		}
		if d%2 == 0 {
			n--
		}
		if slices.Min(faceRound(m, d)) == d {
			n++
		}
	}
	return n
}

// wantRound is what Round answers of a model that may be.
func wantRound(m model.Model) [][]int {
	out := make([][]int, len(m.Vertices))
	for _, d := range darts(m) {
		if v := from(m, d); len(out[v]) == 0 {
			out[v] = vertexRound(m, d)
		}
	}
	return out
}

// number are the four bytes of a number.
func number(v uint32) []byte {
	return []byte{byte(v >> 24), byte(v >> 16), byte(v >> 8), byte(v)}
}

// wantBytes is what Encode answers of a model that may be.
func wantBytes(m model.Model) []byte {
	out := slices.Concat(number(uint32(m.N)), number(uint32(len(m.Vertices))))
	for _, p := range m.Vertices {
		out = append(append(out, number(p.Age)...), byte(p.Is))
	}
	out = append(out, number(uint32(len(m.Edges)))...)
	for e, p := range m.Edges {
		out = append(append(out, number(p.Age)...), byte(p.Is))
		if p.Is == 1 {
			x := m.L[e]
			out = slices.Concat(out, number(x.From[0]), number(x.Next[0]), number(x.From[1]), number(x.Next[1]), number(uint32(x.W)))
		}
	}
	return out
}

// read is a model read of bytes, and whether they are just those of one that may
// be. It reads what is there, and leaves it to what is written anew to tell
// whether anything was wrong.
func read(b []byte) (model.Model, bool) {
	left := b
	take := func(n int) uint32 {
		var v uint32
		for range n {
			v <<= 8
			if len(left) > 0 {
				v, left = v|uint32(left[0]), left[1:]
			}
		}
		return v
	}
	m := model.Model{N: int(take(4))}
	for n := take(4); n > 0 && len(left) > 0; n-- {
		m.Vertices = append(m.Vertices, arena.Place{Age: take(4), Is: arena.State(take(1))})
	}
	for n := take(4); n > 0 && len(left) > 0; n-- {
		m.Edges = append(m.Edges, arena.Place{Age: take(4), Is: arena.State(take(1))})
		var x model.Edge
		if m.Edges[len(m.Edges)-1].Is == 1 {
			x.From[0], x.Next[0], x.From[1], x.Next[1], x.W = take(4), take(4), take(4), take(4), int32(take(4))
		}
		m.L = append(m.L, x)
	}
	return m, bytes.Equal(wantBytes(m), b) && mayBe(m)
}

// checkModel fails unless all calls answer what the words tell of a model; it
// tells whether that may be.
func checkModel(t *testing.T, m model.Model) bool {
	t.Helper()
	if !mayBe(m) {
		checkWrong(t, m)
		return false
	}
	checkRight(t, m, wantRound(m), wantBytes(m))
	return true
}

// checkRight fails unless a model may be, and has that round and those bytes.
func checkRight(t *testing.T, m model.Model, rows [][]int, b []byte) {
	t.Helper()
	checkErr(t, "Check", model.Check(m), 0)
	got, err := model.Round(m)
	checkErr(t, "Round", err, 0)
	if !slices.EqualFunc(got, rows, slices.Equal) {
		t.Fatalf("Round of %v: %v, want %v", m, got, rows)
	}
	code, err := model.Encode(m)
	checkErr(t, "Encode", err, 0)
	if !bytes.Equal(code, b) {
		t.Fatalf("Encode of %v: %v, want %v", m, code, b)
	}
	back, err := model.Decode(b)
	checkErr(t, "Decode", err, 0)
	if !same(back, m) {
		t.Fatalf("Decode of %v: %v, want %v", b, back, m)
	}
}

// checkWrong fails unless a model may not be, and nothing is told of it.
func checkWrong(t *testing.T, m model.Model) {
	t.Helper()
	if err := model.Check(m); !isErr(err, api.ErrLoad) {
		t.Fatalf("Check of %v: error %v, want %v", m, err, api.ErrLoad)
	}
	rows, err := model.Round(m)
	checkErr(t, "Round", err, api.ErrLoad)
	b, err := model.Encode(m)
	checkErr(t, "Encode", err, api.ErrLoad)
	if len(rows) > 0 || len(b) > 0 {
		t.Fatalf("beside an error: %v, %v", rows, b)
	}
}

// checkDecode fails unless Decode answers what the words tell of bytes; it tells
// whether they are a model's.
func checkDecode(t *testing.T, b []byte) bool {
	t.Helper()
	want, ok := read(b)
	if !ok {
		checkNoDecode(t, b)
		return false
	}
	got, err := model.Decode(b)
	checkErr(t, "Decode", err, 0)
	if !same(got, want) {
		t.Fatalf("Decode of %v: %v, want %v", b, got, want)
	}
	again, err := model.Encode(got)
	checkErr(t, "Encode", err, 0)
	if !bytes.Equal(again, b) {
		t.Fatalf("Encode of Decode of %v: %v", b, again)
	}
	return true
}

// checkNoDecode fails unless bytes are no model's.
func checkNoDecode(t *testing.T, b []byte) {
	t.Helper()
	m, err := model.Decode(b)
	if !isErr(err, api.ErrLoad) {
		t.Fatalf("Decode of %d bytes: error %v, want %v", len(b), err, api.ErrLoad)
	}
	if !same(m, model.Model{}) {
		t.Fatalf("beside an error: %v", m)
	}
}
