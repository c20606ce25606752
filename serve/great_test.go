package serve_test

import (
	"bytes"
	"slices"
	"testing"

	"plait/answer"
	"plait/api"
	"plait/arena"
	"plait/cmd"
	"plait/model"
	"plait/serve"
	"plait/sphere"
)

// answered fails unless a service answers just that.
func answered(t *testing.T, s *serve.Service, c cmd.Command, want answer.Answer) {
	t.Helper()
	if got := s.Do(c); !same(got, want) {
		t.Fatalf("%s: another answer, of the error %d", tell(c), got.Err)
	}
}

// SV1: the state is made when it is needed first: services that are not asked for
// anything are there at once, however many places they have, and so are the answers
// of wrong commands.
func TestMadeWhenNeeded(t *testing.T) {
	var l []*serve.Service
	for range 100000 {
		s := made(t, most)
		answered(t, s, cmd.Command{Code: cmd.Codes}, wrong(10))
		l = append(l, s)
	}
	for _, s := range l[:3] {
		answered(t, s, addVertex, handles(h(0, 1)))
		answered(t, s, addVertex, handles(h(1, 1)))
	}
}

// SV1, SV2: the longest data, and longer.
func TestLongest(t *testing.T) {
	s := made(t, 1)
	answered(t, s, addVertex, handles(h(0, 1)))
	data := make([]byte, api.MaxFrame+1)
	answered(t, s, loadOf(data[:api.MaxFrame-1]), wrong(17))
	answered(t, s, loadOf(data[:api.MaxFrame]), wrong(2))
	answered(t, s, cmd.Command{Code: cmd.Load, W: 1, Data: data}, wrong(1))
	data[0] = cmd.Load
	for n, want := range map[int]byte{api.MaxFrame: 17, api.MaxFrame + 1: 11} {
		if got := s.Frame(data[:n]); !slices.Equal(got, []byte{want}) {
			t.Fatalf("Frame of %d bytes: %v, want %d", n, got, want)
		}
	}
	answered(t, s, addVertex, wrong(16))
}

// row is a model of as many vertices as there may be, each joined with the next one.
func row() model.Model {
	lives := slices.Repeat([]arena.Place{{Age: 1, Is: arena.Live}}, most)
	m := model.Model{N: most, Vertices: lives, Edges: lives[:most-1], L: make([]model.Edge, most-1)}
	for e := range m.L {
		d := uint32(2 * e)
		// Round the vertex e stand the dart 2 e, and behind it the second one of the
		// edge ahead, if there are both.
		m.L[e] = model.Edge{From: [2]uint32{uint32(e), uint32(e + 1)}, Next: [2]uint32{d - 1, d + 2}, W: 1}
	}
	m.L[0].Next[0], m.L[most-2].Next[1] = 0, 2*(most-1)-1
	return m
}

// SV1 to SV3: all vertices that there may be, in one tree.
func TestGreatRow(t *testing.T) {
	code, err := model.Encode(row())
	checkErr(t, "Encode", err, 0)
	s := made(t, most)
	answered(t, s, loadOf(code), done)
	answered(t, s, cmd.Command{Code: cmd.Counts}, answer.Answer{Counts: sphere.Counts{V: most, E: most - 1, F: 1, C: 1}})
	answered(t, s, cmd.Command{Code: cmd.Sum}, answer.Answer{Sum: most - 1})
	answered(t, s, addVertex, wrong(16))
	face := s.Do(dartCommand(cmd.Face, h(most-2, 1), 1))
	if len(face.Darts) != 2*(most-1) || face.Darts[0] != (answer.Side{Edge: h(most-2, 1), At: 1}) || face.Darts[1] != (answer.Side{Edge: h(most-3, 1), At: 1}) {
		t.Fatalf("Face has %d darts, the first %v", len(face.Darts), face.Darts[:2])
	}
	out := s.Frame([]byte{cmd.Face, 1, 0, 0, 0, 1, 0, 15, 255, 254})
	want, err := answer.Encode(cmd.Face, face)
	checkErr(t, "Encode", err, 0)
	if !bytes.Equal(out, want) {
		t.Fatal("Frame of Face: other bytes than Do's answer")
	}
	answered(t, s, connected(h(0, 1), h(most-1, 1)), yes)
	answered(t, s, insert(h(0, 1), 1, h(most-2, 1), 2, 5), handles(h(most-1, 1)))
	answered(t, s, insert(h(0, 1), 1, h(0, 1), 1, 5), wrong(16))
	answered(t, s, dartCommand(cmd.FaceLen, h(most-1, 1), 1), answer.Answer{N: most})
	answered(t, s, edgeCommand(cmd.Marked, h(most-1, 1)), no)
	answered(t, s, edgeCommand(cmd.Ends, h(most-1, 1)), handles(h(0, 1), h(most-1, 1)))
	dump := s.Do(cmd.Command{Code: cmd.Dump})
	other := made(t, most)
	answered(t, other, loadOf(dump.Data), done)
	answered(t, other, edgeCommand(cmd.Delete, h(most-1, 1)), done)
	answered(t, other, edgeCommand(cmd.Delete, h(5, 1)), done)
	answered(t, other, connected(h(0, 1), h(most-1, 1)), no)
	answered(t, other, edgeCommand(cmd.Delete, h(most-1, 1)), wrong(13))
	answered(t, s, edgeCommand(cmd.Bridge, h(5, 1)), no)
}

// Each command needs a few steps for each doubling of the map: to go over all of it
// each time would take hours.
func TestAtOnce(t *testing.T) {
	const n = 1 << 16
	s := made(t, n)
	for v := range uint32(n) {
		answered(t, s, addVertex, handles(h(v, 1)))
	}
	// A row of edges, and behind it one that joins its ends.
	answered(t, s, insert(h(0, 1), 0, h(1, 1), 0, 9), handles(h(0, 1)))
	for e := uint32(1); e < n-1; e++ {
		answered(t, s, insert(h(e-1, 1), 2, h(e+1, 1), 0, 9), handles(h(e, 1)))
	}
	for k := range uint32(20000) {
		age := k + 1
		answered(t, s, insert(h(0, 1), 1, h(n-2, 1), 2, int32(k)), handles(h(n-1, age)))
		answered(t, s, edgeCommand(cmd.Bridge, h(n/2, 1)), no)
		answered(t, s, edgeCommand(cmd.Marked, h(n-1, age)), answer.Answer{Is: k < 9})
		answered(t, s, dartCommand(cmd.FaceLen, h(n-1, age), 0), answer.Answer{N: n})
		answered(t, s, sameFace(dartCommand(0, h(3, 1), 0), dartCommand(0, h(n-9, 1), 1)), no)
		answered(t, s, connected(h(0, 1), h(n-1, 1)), yes)
		answered(t, s, insert(h(0, 1), 1, h(n-2, 1), 2, 0), wrong(15))
		answered(t, s, cmd.Command{Code: cmd.Counts}, answer.Answer{Counts: sphere.Counts{V: n, E: n, F: 2, C: 1}})
		answered(t, s, edgeCommand(cmd.Delete, h(n-1, age)), done)
	}
}
