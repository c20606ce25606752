package serve_test

import (
	"fmt"
	"math"
	"slices"
	"testing"

	"plait/answer"
	"plait/api"
	"plait/arena"
	"plait/cmd"
	"plait/model"
	"plait/serve"
	"plait/sphere"
)

// h is a handle.
func h(at, age uint32) api.Handle { return api.Handle{Age: age, At: at} }

// handles, darts and so on are answers that have those.
func handles(l ...api.Handle) answer.Answer { return answer.Answer{Handles: l} }
func darts(l ...answer.Side) answer.Answer  { return answer.Answer{Darts: l} }

var yes, no, done = answer.Answer{Is: true}, answer.Answer{}, answer.Answer{}

var addVertex = cmd.Command{Code: cmd.AddVertex}

// line is a command, and what it is to be answered.
type line struct {
	c    cmd.Command
	want answer.Answer
}

// script does commands one by one, and holds the answers against those told.
func (b both) script(l ...line) {
	b.t.Helper()
	for i, x := range l {
		if got := b.do(x.c); !same(got, x.want) {
			b.t.Fatalf("line %d, %s: %v, want %v", i, tell(x.c), got, x.want)
		}
	}
}

// The chapter's example.
func TestExample(t *testing.T) {
	b := newBoth(t, 1)
	b.script(
		line{addVertex, handles(h(0, 1))},
		line{insert(h(0, 1), 0, h(0, 1), 0, 0), handles(h(0, 1))},
		line{addVertex, wrong(16)},
	)
	b.checkAll()
}

// The document's examples, written out, so that the lists are held to something.
func TestEdgeWrittenOut(t *testing.T) {
	b := newBoth(t, 2)
	e := h(0, 1)
	b.script(
		line{addVertex, handles(h(0, 1))},
		line{addVertex, handles(h(1, 1))},
		line{connected(h(0, 1), h(1, 1)), no},
		line{insert(h(0, 1), 0, h(1, 1), 0, 5), handles(e)},
		line{connected(h(0, 1), h(1, 1)), yes},
		line{edgeCommand(cmd.Bridge, e), yes},
		line{edgeCommand(cmd.Marked, e), yes},
		line{dartCommand(cmd.FaceLen, e, 1), answer.Answer{N: 2}},
		line{dartCommand(cmd.Face, e, 0), darts(answer.Side{Edge: e}, answer.Side{Edge: e, At: 1})},
		line{dartCommand(cmd.Face, e, 1), darts(answer.Side{Edge: e, At: 1}, answer.Side{Edge: e})},
		line{dartCommand(cmd.Next, e, 1), darts(answer.Side{Edge: e, At: 1})},
		line{edgeCommand(cmd.Ends, e), handles(h(0, 1), h(1, 1))},
		line{cmd.Command{Code: cmd.Counts}, answer.Answer{Counts: sphere.Counts{V: 2, E: 1, F: 1, C: 1}}},
		line{cmd.Command{Code: cmd.Sum}, answer.Answer{Sum: 5}},
		line{cmd.Command{Code: cmd.Dump}, answer.Answer{Data: []byte{
			0, 0, 0, 2, 0, 0, 0, 2, 0, 0, 0, 1, 1, 0, 0, 0, 1, 1,
			0, 0, 0, 1, 0, 0, 0, 1, 1, 0, 0, 0, 0, 0, 0, 0, 0, 0, 0, 0, 1, 0, 0, 0, 1, 0, 0, 0, 5,
		}}},
		line{cmd.Command{Code: cmd.Weigh, Handles: [2]api.Handle{e}, W: -7}, done},
		line{cmd.Command{Code: cmd.Sum}, answer.Answer{Sum: -7}},
		line{edgeCommand(cmd.DropVertex, h(0, 1)), wrong(14)},
		line{edgeCommand(cmd.Delete, e), done},
		line{edgeCommand(cmd.Delete, e), wrong(13)},
		line{edgeCommand(cmd.DropVertex, h(0, 1)), done},
		line{addVertex, handles(h(0, 2))},
		line{insert(h(0, 2), 0, h(0, 2), 0, 1), handles(h(0, 2))},
		line{insert(h(0, 2), 2, h(1, 1), 0, 1), handles(h(1, 1))},
		line{dartCommand(cmd.Next, h(0, 2), 1), darts(answer.Side{Edge: h(1, 1)})},
		line{cmd.Command{Code: cmd.Counts}, answer.Answer{Counts: sphere.Counts{V: 2, E: 2, F: 2, C: 1}}},
	)
	b.checkAll()
}

// triangle does what makes a triangle of the weights 1, 2, 3, and fails unless it
// does.
func triangle(t *testing.T, n int) both {
	t.Helper()
	b := newBoth(t, n)
	b.script(
		line{addVertex, handles(h(0, 1))},
		line{addVertex, handles(h(1, 1))},
		line{addVertex, handles(h(2, 1))},
		line{insert(h(0, 1), 0, h(1, 1), 0, 1), handles(h(0, 1))},
		line{insert(h(0, 1), 2, h(2, 1), 0, 2), handles(h(1, 1))},
		line{insert(h(1, 1), 2, h(0, 1), 1, 3), handles(h(2, 1))},
	)
	return b
}

func TestTriangleWrittenOut(t *testing.T) {
	b := triangle(t, 3)
	b.script(
		line{edgeCommand(cmd.Marked, h(0, 1)), yes},
		line{edgeCommand(cmd.Marked, h(1, 1)), yes},
		line{edgeCommand(cmd.Marked, h(2, 1)), no},
		line{edgeCommand(cmd.Bridge, h(0, 1)), no},
		line{dartCommand(cmd.FaceLen, h(2, 1), 0), answer.Answer{N: 3}},
		line{dartCommand(cmd.Face, h(1, 1), 0), darts(answer.Side{Edge: h(1, 1)}, answer.Side{Edge: h(2, 1)}, answer.Side{Edge: h(0, 1)})},
		line{sameFace(dartCommand(0, h(0, 1), 0), dartCommand(0, h(2, 1), 0)), yes},
		line{sameFace(dartCommand(0, h(0, 1), 0), dartCommand(0, h(2, 1), 1)), no},
		line{cmd.Command{Code: cmd.Sum}, answer.Answer{Sum: 3}},
		line{insert(h(0, 1), 1, h(1, 1), 2, 9), wrong(15)},
		line{insert(h(0, 1), 1, h(2, 1), 1, 9), wrong(16)},
		line{edgeCommand(cmd.Delete, h(0, 1)), done},
		line{edgeCommand(cmd.Marked, h(2, 1)), yes},
		line{cmd.Command{Code: cmd.Sum}, answer.Answer{Sum: 5}},
		line{edgeCommand(cmd.Marked, h(0, 1)), wrong(13)},
	)
	b.checkAll()
}

// wrongSizes are numbers of places that may not be; cut to 32 bits some may.
var wrongSizes = []int{0, -1, -2, -most, math.MinInt32, -1 << 32, 1 - 1<<32, math.MinInt, math.MinInt + 4, most + 1, most + 2, 2 * most, math.MaxInt32, math.MaxUint32, 1 << 32, 1<<32 + 1, 1<<32 + 5, 1<<40 + most, math.MaxInt}

// SV1: New.
func TestNew(t *testing.T) {
	for _, n := range wrongSizes {
		s, err := serve.New(n)
		checkErr(t, fmt.Sprint("New of ", n), err, 1)
		if s != nil {
			t.Fatalf("New of %d: %v beside an error", n, s)
		}
	}
	for _, n := range []int{1, 2, 3, 64, 65} {
		b := newBoth(t, n)
		b.checkAll()
		for v := range n {
			b.script(line{addVertex, handles(h(uint32(v), 1))})
		}
		b.script(line{addVertex, wrong(16)})
		b.checkAll()
	}
	for _, n := range []int{1, 2, 7, most - 1, most} {
		b := newBoth(t, n)
		b.script(line{cmd.Command{Code: cmd.Counts}, answer.Answer{}}, line{cmd.Command{Code: cmd.Sum}, answer.Answer{}}, line{addVertex, handles(h(0, 1))})
		s, err := b.s.State()
		checkErr(t, "State", err, 0)
		if got := s.Map.Room(); got != n {
			t.Fatalf("a state of %d places, want %d", got, n)
		}
	}
}

// SV1, SV2: a nil Service.
func TestNil(t *testing.T) {
	var s *serve.Service
	for code := -1; code <= cmd.Codes; code++ {
		checkAnswer(t, code, s.Do(cmd.Command{Code: code}), wrong(1))
		checkAnswer(t, code, s.Do(cmd.Command{Code: code, Sides: [2]int{9, 9}}), wrong(1))
	}
	state, err := s.State()
	checkErr(t, "State", err, 1)
	if state != nil {
		t.Fatalf("State: %v beside an error", state)
	}
	for _, x := range []struct{ in, want []byte }{
		{nil, []byte{10}}, {[]byte{0}, []byte{10}}, {[]byte{18}, []byte{10}}, {[]byte{1, 0}, []byte{11}},
		{[]byte{9, 2, 0, 0, 0, 0, 0, 0, 0, 0}, []byte{3}}, {[]byte{1}, []byte{1}}, {[]byte{11}, []byte{1}}, {[]byte{15}, []byte{1}},
	} {
		if got := s.Frame(x.in); !slices.Equal(got, x.want) {
			t.Fatalf("Frame of %v: %v, want %v", x.in, got, x.want)
		}
	}
}

// SV1: cmd.Check's error comes first, whatever else is wrong.
func TestWrongCommands(t *testing.T) {
	b := triangle(t, 3)
	far := [2]api.Handle{h(9, 9), h(8, 8)}
	for _, code := range []int{-1, 0, 18, 19, 255, 256, 257, 1<<32 + 1, 1 << 62, math.MinInt, math.MaxInt, math.MinInt32} {
		b.script(line{cmd.Command{Code: code}, wrong(10)}, line{cmd.Command{Code: code, Handles: far, Sides: [2]int{9, 9}, W: 1, Data: []byte{1}}, wrong(10)})
	}
	for code := 1; code < cmd.Codes; code++ {
		for _, side := range []int{-1, 2, 3, 256, 1 << 32, math.MinInt, math.MaxInt} {
			for at := range 2 {
				c := cmd.Command{Code: code, Handles: far, W: 1, Data: []byte{1}}
				c.Sides[at] = side
				b.do(c)
				c = cmd.Command{Code: code}
				c.Sides[at] = side
				b.do(c)
			}
		}
		b.do(cmd.Command{Code: code, Handles: far})
		b.do(cmd.Command{Code: code, Handles: [2]api.Handle{{}, h(0, 1)}})
		b.do(cmd.Command{Code: code, Handles: [2]api.Handle{h(0, 1)}, W: 1})
		b.do(cmd.Command{Code: code, Data: []byte{0}})
	}
	b.script(
		line{dartCommand(cmd.Face, h(9, 9), 2), wrong(3)},
		line{insert(h(9, 9), 0, h(9, 9), 3, 0), wrong(3)},
		line{cmd.Command{Code: cmd.Delete, Handles: far}, wrong(1)},
		line{cmd.Command{Code: cmd.AddVertex, Handles: far}, wrong(1)},
		line{cmd.Command{Code: cmd.Dump, Data: []byte{1}}, wrong(1)},
		line{cmd.Command{Code: cmd.Bridge, Handles: [2]api.Handle{h(9, 9)}, Data: []byte{1}}, wrong(1)},
		line{cmd.Command{Code: cmd.Load, W: 1, Data: []byte{1}}, wrong(1)},
	)
	b.checkAll()
}

// farAts are places that are none of few ones; some are, cut to fewer bits, or
// doubled.
var farAts = []uint32{3, 4, 5, 6, 255, 256, 1 << 16, most, most + 1, 1 << 30, 1 << 31, 1<<31 + 1, math.MaxUint32 - 1, math.MaxUint32}

// SV1: each handle is looked at in order: first whether there is such a place, and
// then whether it is live with that age.
func TestHandlesInOrder(t *testing.T) {
	b := triangle(t, 3)
	b.script(line{edgeCommand(cmd.Delete, h(1, 1)), done})
	right, old, freed := h(0, 1), h(0, 2), h(1, 1)
	for code, list := range kinds {
		for _, at := range farAts {
			for _, age := range []uint32{0, 1, 2, lastAge} {
				b.script(line{edgeCommand(code, h(at, age)), wrong(12)})
				if len(list) == 2 {
					two := edgeCommand(code, right)
					two.Handles[1] = h(at, age)
					two.Sides[0] = 1
					if code == cmd.Connected {
						two.Sides[0] = 0
					}
					b.script(line{two, wrong(12)})
					two.Handles = [2]api.Handle{h(at, age), old}
					b.script(line{two, wrong(12)})
					two.Handles = [2]api.Handle{old, h(at, age)}
					b.script(line{two, wrong(13)})
				}
			}
		}
		for _, age := range []uint32{0, 2, 3, 1 << 8, 1<<8 + 1, 1<<16 + 1, 1<<31 + 1, lastAge} {
			b.script(line{edgeCommand(code, h(0, age)), wrong(13)}, line{edgeCommand(code, h(2, age)), wrong(13)})
		}
		if list == "e" {
			b.script(line{edgeCommand(code, freed), wrong(13)})
		}
	}
	b.checkAll()
}

// SV1: all handles that are near to those that there are, with each code and each
// side, each time in a service that is as at first.
func TestAllNear(t *testing.T) {
	b := newBoth(t, 3)
	b.script(
		line{addVertex, handles(h(0, 1))},
		line{addVertex, handles(h(1, 1))},
		line{edgeCommand(cmd.DropVertex, h(0, 1)), done},
		line{addVertex, handles(h(0, 2))},
		line{addVertex, handles(h(2, 1))},
		line{insert(h(0, 2), 0, h(0, 2), 0, 1), handles(h(0, 1))},
		line{insert(h(1, 1), 0, h(0, 1), 2, 1), handles(h(1, 1))},
		line{edgeCommand(cmd.Delete, h(0, 1)), done},
		line{insert(h(1, 1), 2, h(1, 1), 2, 1), handles(h(0, 2))},
	)
	first := b.do(cmd.Command{Code: cmd.Dump}).Data
	var near []api.Handle
	for at := range uint32(4) {
		for age := range uint32(4) {
			near = append(near, h(at, age))
		}
	}
	fresh := func(c cmd.Command) {
		t.Helper()
		if a := b.do(c); a.Err != 0 || c.Code > cmd.Weigh {
			return
		}
		b.checkAll()
		b.script(line{loadOf(first), done})
	}
	for code, list := range kinds {
		for _, x := range near {
			for side := range 3 {
				if len(list) == 1 {
					fresh(dartCommand(code, x, side))
					continue
				}
				for _, y := range near {
					for other := range 3 {
						fresh(cmd.Command{Code: code, Handles: [2]api.Handle{x, y}, Sides: [2]int{side, other}})
					}
				}
			}
		}
	}
	b.checkAll()
	b.script(line{cmd.Command{Code: cmd.Dump}, answer.Answer{Data: first}})
}

// SV1: Insert's errors, in their order.
func TestInsertInOrder(t *testing.T) {
	b := newBoth(t, 5)
	b.script(
		line{addVertex, handles(h(0, 1))},
		line{addVertex, handles(h(1, 1))},
		line{addVertex, handles(h(2, 1))},
		line{insert(h(0, 1), 0, h(0, 1), 0, 1), handles(h(0, 1))},
		line{insert(h(0, 1), 1, h(1, 1), 0, 2), handles(h(1, 1))},
		// A vertex with darts, behind none of which the edge is to be.
		line{insert(h(0, 1), 0, h(2, 1), 0, 1), wrong(14)},
		line{insert(h(2, 1), 0, h(0, 1), 0, 1), wrong(14)},
		line{insert(h(0, 1), 0, h(0, 1), 0, 1), wrong(14)},
		line{insert(h(1, 1), 0, h(1, 1), 2, 1), wrong(14)},
		// A handle that is none comes ahead of that.
		line{insert(h(0, 1), 0, h(3, 1), 0, 1), wrong(13)},
		line{insert(h(0, 1), 0, h(5, 1), 2, 1), wrong(12)},
		line{insert(h(0, 1), 0, h(2, 1), 1, 1), wrong(13)},
		// The loop stands between vertex 1 and the loop's other side.
		line{insert(h(1, 1), 2, h(0, 1), 2, 1), wrong(15)},
		line{insert(h(0, 1), 2, h(1, 1), 2, 1), wrong(15)},
		line{insert(h(0, 1), 2, h(0, 1), 2, 4), handles(h(2, 1))},
		line{insert(h(0, 1), 2, h(2, 1), 0, 4), handles(h(3, 1))},
		line{insert(h(3, 1), 2, h(3, 1), 2, 4), handles(h(4, 1))},
		// All places are given: that is found last.
		line{insert(h(1, 1), 2, h(1, 1), 2, 1), wrong(16)},
		line{insert(h(1, 1), 2, h(2, 1), 0, 1), wrong(14)},
		line{insert(h(1, 1), 2, h(0, 1), 2, 1), wrong(15)},
		line{insert(h(1, 1), 2, h(5, 1), 2, 1), wrong(12)},
		line{insert(h(1, 2), 2, h(5, 1), 2, 1), wrong(13)},
		line{insert(h(1, 1), 3, h(5, 1), 2, 1), wrong(3)},
		line{edgeCommand(cmd.Delete, h(2, 1)), done},
		line{insert(h(1, 1), 2, h(1, 1), 2, 1), handles(h(2, 2))},
	)
	b.checkAll()
}

// SV1: a vertex without darts is a corner, and both corners may be that one.
func TestLoopAlone(t *testing.T) {
	b := newBoth(t, 4)
	b.script(
		line{addVertex, handles(h(0, 1))},
		line{insert(h(0, 1), 0, h(0, 1), 0, -3), handles(h(0, 1))},
		line{edgeCommand(cmd.Ends, h(0, 1)), handles(h(0, 1), h(0, 1))},
		line{dartCommand(cmd.Next, h(0, 1), 0), darts(answer.Side{Edge: h(0, 1), At: 1})},
		line{dartCommand(cmd.Face, h(0, 1), 0), darts(answer.Side{Edge: h(0, 1)})},
		line{edgeCommand(cmd.Marked, h(0, 1)), no},
		line{edgeCommand(cmd.Bridge, h(0, 1)), no},
		line{edgeCommand(cmd.Delete, h(0, 1)), done},
		line{edgeCommand(cmd.DropVertex, h(0, 1)), done},
		line{insert(h(0, 1), 0, h(0, 1), 0, -3), wrong(13)},
		line{connected(h(0, 1), h(0, 1)), wrong(13)},
	)
	b.checkAll()
}

// worn is a model of two places, of each of which one is worn, and the other one
// given for the last time.
func worn() model.Model {
	last, gone := arena.Place{Age: lastAge, Is: arena.Live}, arena.Place{Age: lastAge, Is: arena.Worn}
	return model.Model{
		N: 2, Vertices: []arena.Place{gone, last}, Edges: []arena.Place{last, gone},
		L: []model.Edge{{From: [2]uint32{1, 1}, Next: [2]uint32{1, 0}, W: 7}, {}},
	}
}

// SV1: a place that is worn is not given again.
func TestWorn(t *testing.T) {
	b := newBoth(t, 2)
	code, err := model.Encode(worn())
	checkErr(t, "Encode", err, 0)
	b.script(
		line{loadOf(code), done},
		line{addVertex, wrong(16)},
		line{insert(h(0, lastAge), 1, h(0, lastAge), 1, 0), wrong(16)},
		line{edgeCommand(cmd.DropVertex, h(0, lastAge)), wrong(13)},
		line{edgeCommand(cmd.Delete, h(1, lastAge)), wrong(13)},
		line{edgeCommand(cmd.DropVertex, h(1, lastAge)), wrong(14)},
		line{edgeCommand(cmd.Delete, h(0, lastAge)), done},
		line{insert(h(1, lastAge), 0, h(1, lastAge), 0, 0), wrong(16)},
		line{edgeCommand(cmd.Delete, h(0, lastAge)), wrong(13)},
		line{edgeCommand(cmd.DropVertex, h(1, lastAge)), done},
		line{edgeCommand(cmd.DropVertex, h(1, lastAge)), wrong(13)},
		line{addVertex, wrong(16)},
		line{edgeCommand(cmd.DropVertex, h(1, 0)), wrong(13)},
	)
	b.checkAll()
}

// SV2: wrong frames are answered by the number of Decode's error, and nothing else.
func TestWrongFrames(t *testing.T) {
	b := triangle(t, 3)
	for _, x := range []struct{ in, want []byte }{
		{nil, []byte{10}}, {[]byte{}, []byte{10}}, {[]byte{0}, []byte{10}}, {[]byte{18}, []byte{10}}, {[]byte{255, 1}, []byte{10}},
		{[]byte{1, 0}, []byte{11}}, {[]byte{2}, []byte{11}}, {[]byte{9, 2, 0, 0, 0, 0, 0, 0, 0}, []byte{11}},
		{[]byte{9, 2, 0, 0, 0, 1, 0, 0, 0, 0}, []byte{3}}, {[]byte{9, 1, 0, 0, 0, 1, 0, 0, 0, 3}, []byte{12}},
		{[]byte{9, 1, 0, 0, 0, 2, 0, 0, 0, 0}, []byte{13}}, {[]byte{9, 1, 0, 0, 0, 1, 0, 0, 0, 0}, []byte{0, 0, 0, 0, 3}},
		{[]byte{11}, []byte{0, 0, 0, 0, 3, 0, 0, 0, 3, 0, 0, 0, 2, 0, 0, 0, 1}}, {[]byte{13}, []byte{0, 0, 0, 0, 0, 0, 0, 0, 3}},
		{[]byte{15}, []byte{17}}, {[]byte{15, 0}, []byte{17}}, {[]byte{1}, []byte{16}},
		{[]byte{4, 0, 0, 0, 1, 0, 0, 0, 2}, []byte{0}}, {[]byte{16, 0, 0, 0, 1, 0, 0, 0, 1}, []byte{0, 0, 0, 0, 1, 0, 0, 0, 1, 0, 0, 0, 1, 0, 0, 0, 2}},
	} {
		if got := b.f.Frame(x.in); !slices.Equal(got, x.want) {
			t.Fatalf("Frame of %v: %v, want %v", x.in, got, x.want)
		}
	}
	// An edge was deleted by a frame alone.
	for _, a := range []answer.Answer{b.p.do(edgeCommand(cmd.Delete, h(2, 1))), b.s.Do(edgeCommand(cmd.Delete, h(2, 1)))} {
		checkAnswer(t, "Delete", a, done)
	}
	b.checkAll()
}

// asFrame fails unless Frame of any bytes answers what the words say.
func (b both) asFrame(code []byte) {
	b.t.Helper()
	before := slices.Clone(code)
	got := b.f.Frame(code)
	if !slices.Equal(code, before) {
		b.t.Fatalf("Frame of %v: what was handed in was changed", before)
	}
	c, err := cmd.Decode(code)
	if err != nil {
		if want := []byte{byte(err.(api.Errno))}; !slices.Equal(got, want) {
			b.t.Fatalf("Frame of %v: %v, want %v", code, got, want)
		}
		return
	}
	want, err := answer.Encode(c.Code, b.p.do(c))
	checkErr(b.t, "Encode of the answer", err, 0)
	if !slices.Equal(got, want) {
		b.t.Fatalf("Frame of %v: %v, want %v", code, got, want)
	}
	b.s.Do(c)
}

// SV2: each byte of a frame made any other one, and frames cut and lengthened.
func TestNearFrames(t *testing.T) {
	b := triangle(t, 4)
	b.script(line{edgeCommand(cmd.Delete, h(0, 1)), done})
	first := b.do(cmd.Command{Code: cmd.Dump}).Data
	list := []cmd.Command{
		addVertex, {Code: cmd.Counts}, {Code: cmd.Sum}, {Code: cmd.Dump},
		edgeCommand(cmd.DropVertex, h(1, 1)), insert(h(1, 1), 2, h(1, 1), 2, 260), edgeCommand(cmd.Delete, h(1, 1)),
		{Code: cmd.Weigh, Handles: [2]api.Handle{h(2, 1)}, W: -1}, connected(h(0, 1), h(2, 1)),
		sameFace(dartCommand(0, h(1, 1), 1), dartCommand(0, h(2, 1), 1)), edgeCommand(cmd.Bridge, h(1, 1)),
		dartCommand(cmd.FaceLen, h(1, 1), 0), dartCommand(cmd.Face, h(1, 1), 0), edgeCommand(cmd.Marked, h(1, 1)),
		loadOf(first), edgeCommand(cmd.Ends, h(1, 1)), dartCommand(cmd.Next, h(1, 1), 1),
	}
	for _, c := range list {
		code, err := cmd.Encode(c)
		checkErr(t, "Encode", err, 0)
		for k := range code {
			b.asFrame(code[:k])
			x := slices.Clone(code)
			for v := range 256 {
				x[k] = byte(v)
				b.asFrame(x)
			}
		}
		b.asFrame(append(slices.Clone(code), 0))
		b.asFrame(code)
		b.checkAll()
		b.script(line{loadOf(first), done})
	}
}

// SV1: Load of bytes that are no model's, or one's of other places, changes
// nothing.
func TestWrongLoads(t *testing.T) {
	b := triangle(t, 3)
	first := b.do(cmd.Command{Code: cmd.Dump}).Data
	for _, n := range []int{1, 2, 4, 5, most} {
		other := newBoth(t, n)
		code := other.do(cmd.Command{Code: cmd.Dump}).Data
		b.script(line{loadOf(code), wrong(17)})
		other.script(line{loadOf(first), wrong(17)}, line{loadOf(code), done})
	}
	b.script(line{loadOf(nil), wrong(17)}, line{loadOf([]byte{}), wrong(17)}, line{loadOf(append(slices.Clone(first), 0)), wrong(17)})
	for k := range first {
		b.script(line{loadOf(first[:k]), wrong(17)})
	}
	b.checkAll()
	b.script(line{cmd.Command{Code: cmd.Dump}, answer.Answer{Data: first}})
}

// SV1: a Load that is the first of all commands, and is not forgotten.
func TestLoadFirst(t *testing.T) {
	first := triangle(t, 3).do(cmd.Command{Code: cmd.Dump}).Data
	b := newBoth(t, 3)
	b.script(line{loadOf(first), done}, line{cmd.Command{Code: cmd.Dump}, answer.Answer{Data: first}}, line{addVertex, wrong(16)})
	b.checkAll()
	b = newBoth(t, 3)
	b.script(line{loadOf(first[1:]), wrong(17)}, line{addVertex, handles(h(0, 1))})
	b.checkAll()
	b = newBoth(t, 3)
	b.checkState()
	b.script(line{loadOf(first), done})
	b.checkState()
	b.script(line{edgeCommand(cmd.Delete, h(0, 1)), done})
	b.checkAll()
}
