package serve_test

import (
	"cmp"
	"errors"
	"fmt"
	"math"
	"slices"
	"testing"

	"plait/answer"
	"plait/api"
	"plait/arena"
	"plait/cmd"
	"plait/model"
	"plait/serve"
	"plait/sphere"
)

// most is how many places there are at most, lastAge the age of a place that is
// not given again, and none no dart.
const (
	most    = 1 << 20
	lastAge = math.MaxUint32
	none    = -1
)

// checkErr fails unless err is the number want (0: nil), as errors.As finds it.
func checkErr(t *testing.T, what string, err error, want api.Errno) {
	t.Helper()
	if want == 0 {
		if err != nil {
			t.Fatalf("%s: error %v, want none", what, err)
		}
		return
	}
	var e api.Errno
	if !errors.As(err, &e) || e != want {
		t.Fatalf("%s: error %v, want %v", what, err, want)
	}
}

// same tells whether two answers are one.
func same(a, b answer.Answer) bool {
	return a.Err == b.Err && a.Is == b.Is && a.N == b.N && a.Counts == b.Counts && a.Sum == b.Sum &&
		slices.Equal(a.Handles, b.Handles) && slices.Equal(a.Darts, b.Darts) && slices.Equal(a.Data, b.Data)
}

// checkAnswer fails unless an answer is just that.
func checkAnswer(t *testing.T, what any, got, want answer.Answer) {
	t.Helper()
	if !same(got, want) {
		t.Fatalf("%v: %v, want %v", what, got, want)
	}
}

// wrong is the answer of an error.
func wrong(e api.Errno) answer.Answer { return answer.Answer{Err: int(e)} }

// plain is a service as plain lists, gone over anew for each command: the places of
// the vertices and of the edges, which darts stand round each vertex, and the
// edges' weights.
type plain struct {
	n               int
	vertices, edges []arena.Place
	rows            [][]int
	w               []int32
}

func newPlain(n int) *plain {
	return &plain{n: n, rows: make([][]int, n), w: make([]int32, n)}
}

// plainOf is the service that has loaded a model.
func plainOf(m model.Model) *plain {
	p := newPlain(m.N)
	p.vertices, p.edges = slices.Clone(m.Vertices), slices.Clone(m.Edges)
	for e, x := range m.L {
		p.w[e] = x.W
		for side := range 2 {
			v := x.From[side]
			if m.Edges[e].Is != arena.Live || len(p.rows[v]) > 0 {
				continue
			}
			first := uint32(2*e + side)
			p.rows[v] = []int{int(first)}
			for d := x.Next[side]; d != first; d = m.L[d/2].Next[d%2] {
				p.rows[v] = append(p.rows[v], int(d))
			}
		}
	}
	return p
}

// model is what the service's state is as a plain list.
func (p *plain) model() model.Model {
	m := model.Model{N: p.n, Vertices: slices.Clone(p.vertices), Edges: slices.Clone(p.edges), L: make([]model.Edge, len(p.edges))}
	for _, e := range p.laid() {
		m.L[e].W = p.w[e]
		for side := range 2 {
			m.L[e].From[side] = uint32(p.origin(2*e + side))
			m.L[e].Next[side] = uint32(p.next(2*e + side))
		}
	}
	return m
}

// live are the places that are so.
func live(l []arena.Place) []int {
	var out []int
	for at, p := range l {
		if p.Is == arena.Live {
			out = append(out, at)
		}
	}
	return out
}

func (p *plain) laid() []int { return live(p.edges) }

// origin is where a dart that is laid stands.
func (p *plain) origin(d int) int {
	return slices.IndexFunc(p.rows, func(row []int) bool { return slices.Contains(row, d) })
}

// next is the dart behind one that is laid, round its vertex.
func (p *plain) next(d int) int {
	row := p.rows[p.origin(d)]
	return row[(slices.Index(row, d)+1)%len(row)]
}

// twin is the other dart of a dart's edge.
func twin(d int) int { return d/2*2 + 1 - d%2 }

// face is the face of a dart that is laid, from that on.
func (p *plain) face(d int) []int {
	out := []int{d}
	for x := p.next(twin(d)); x != d; x = p.next(twin(x)) {
		out = append(out, x)
	}
	return out
}

// joined are the vertices that edges of a list join with a vertex.
func (p *plain) joined(v int, list []int) map[int]bool {
	out := map[int]bool{v: true}
	for more := true; more; {
		more = false
		for _, e := range list {
			a, b := p.origin(2*e), p.origin(2*e+1)
			if out[a] != out[b] {
				out[a], out[b], more = true, true, true
			}
		}
	}
	return out
}

func (p *plain) connected(a, b int) bool { return p.joined(a, p.laid())[b] }

// bridge tells whether an edge that is laid is one.
func (p *plain) bridge(e int) bool {
	others := slices.DeleteFunc(p.laid(), func(x int) bool { return x == e })
	return !p.joined(p.origin(2*e), others)[p.origin(2*e+1)]
}

// tree are the least trees' edges.
func (p *plain) tree() []int {
	list := p.laid()
	slices.SortStableFunc(list, func(a, b int) int { return cmp.Compare(p.w[a], p.w[b]) })
	var out []int
	for _, e := range list {
		if !p.joined(p.origin(2*e), out)[p.origin(2*e+1)] {
			out = append(out, e)
		}
	}
	return out
}

func (p *plain) sum() int64 {
	var sum int64
	for _, e := range p.tree() {
		sum += int64(p.w[e])
	}
	return sum
}

func (p *plain) counts() sphere.Counts {
	c := sphere.Counts{V: len(live(p.vertices)), E: len(p.laid())}
	for _, v := range live(p.vertices) {
		if len(p.rows[v]) == 0 {
			c.F++
		}
		first := true
		for u := range p.joined(v, p.laid()) {
			first = first && u >= v
		}
		if first {
			c.C++
		}
	}
	for _, e := range p.laid() {
		for d := 2 * e; d < 2*e+2; d++ {
			if slices.Min(p.face(d)) == d {
				c.F++
			}
		}
	}
	return c
}

// corner is a vertex, and the dart behind which a place at it is, or none.
type corner struct{ v, behind int }

// legal tells whether an edge between two corners crosses none.
func (p *plain) legal(a, b corner) bool {
	if a == b || !p.connected(a.v, b.v) {
		return true
	}
	return slices.Contains(p.face(p.next(a.behind)), p.next(b.behind))
}

// handleOf is the handle of a place that is live.
func handleOf(l []arena.Place, at int) api.Handle {
	return api.Handle{Age: l[at].Age, At: uint32(at)}
}

// give gives the lowest free one of n places, of which some are listed.
func give(l []arena.Place, n int) ([]arena.Place, int, bool) {
	at := slices.IndexFunc(l, func(p arena.Place) bool { return p.Is == arena.Free })
	if at == none {
		at = len(l)
	}
	if at == n {
		return l, 0, false
	}
	if at == len(l) {
		l = append(l, arena.Place{})
	}
	l[at] = arena.Place{Age: l[at].Age + 1, Is: arena.Live}
	return l, at, true
}

// takeBack takes a place back that is live.
func takeBack(l []arena.Place, at int) {
	l[at].Is = arena.Free
	if l[at].Age == lastAge {
		l[at].Is = arena.Worn
	}
}

// kinds tells of what each command's handles are: v of a vertex, e of an edge, c of
// what its side tells.
var kinds = map[int]string{
	cmd.DropVertex: "v", cmd.Insert: "cc", cmd.Delete: "e", cmd.Weigh: "e", cmd.Connected: "vv", cmd.SameFace: "ee",
	cmd.Bridge: "e", cmd.FaceLen: "e", cmd.Face: "e", cmd.Marked: "e", cmd.Ends: "e", cmd.Next: "e",
}

// stale is the error of the first of a command's handles that is none, or 0.
func (p *plain) stale(c cmd.Command) api.Errno {
	for i, kind := range kinds[c.Code] {
		l := p.edges
		if kind == 'v' || kind == 'c' && c.Sides[i] == 0 {
			l = p.vertices
		}
		h := c.Handles[i]
		if uint64(h.At) >= uint64(p.n) {
			return 12
		}
		if int(h.At) >= len(l) || l[h.At] != (arena.Place{Age: h.Age, Is: arena.Live}) {
			return 13
		}
	}
	return 0
}

// do is what a command is to be answered.
func (p *plain) do(c cmd.Command) answer.Answer {
	if err := cmd.Check(c); err != nil {
		return wrong(err.(api.Errno))
	}
	if e := p.stale(c); e != 0 {
		return wrong(e)
	}
	switch c.Code {
	case cmd.AddVertex, cmd.DropVertex, cmd.Insert, cmd.Delete, cmd.Weigh, cmd.Load:
		return p.change(c)
	}
	return p.ask(c)
}

func (p *plain) change(c cmd.Command) answer.Answer {
	at := int(c.Handles[0].At)
	switch c.Code {
	case cmd.AddVertex:
		l, v, ok := give(p.vertices, p.n)
		if !ok {
			return wrong(16)
		}
		p.vertices = l
		return answer.Answer{Handles: []api.Handle{handleOf(l, v)}}
	case cmd.DropVertex:
		if len(p.rows[at]) > 0 {
			return wrong(14)
		}
		takeBack(p.vertices, at)
	case cmd.Insert:
		return p.insert(c)
	case cmd.Delete:
		for v, row := range p.rows {
			p.rows[v] = slices.DeleteFunc(slices.Clone(row), func(d int) bool { return d/2 == at })
		}
		p.w[at] = 0
		takeBack(p.edges, at)
	case cmd.Weigh:
		p.w[at] = c.W
	case cmd.Load:
		m, err := model.Decode(c.Data)
		if err != nil || m.N != p.n {
			return wrong(17)
		}
		*p = *plainOf(m)
	}
	return answer.Answer{}
}

func (p *plain) insert(c cmd.Command) answer.Answer {
	var at [2]corner
	for i, side := range c.Sides {
		x := int(c.Handles[i].At)
		if side == 0 && len(p.rows[x]) > 0 {
			return wrong(14)
		}
		at[i] = corner{x, none}
		if side > 0 {
			d := 2*x + side - 1
			at[i] = corner{p.origin(d), d}
		}
	}
	if !p.legal(at[0], at[1]) {
		return wrong(15)
	}
	l, e, ok := give(p.edges, p.n)
	if !ok {
		return wrong(16)
	}
	p.edges, p.w[e] = l, c.W
	p.put(2*e, at[0])
	if at[1] == (corner{at[0].v, none}) {
		at[1].behind = 2 * e
	}
	p.put(2*e+1, at[1])
	return answer.Answer{Handles: []api.Handle{handleOf(l, e)}}
}

// put lays a dart at a corner.
func (p *plain) put(d int, c corner) {
	row := p.rows[c.v]
	p.rows[c.v] = slices.Insert(slices.Clone(row), slices.Index(row, c.behind)+1, d)
}

func (p *plain) ask(c cmd.Command) answer.Answer {
	a, b := int(c.Handles[0].At), int(c.Handles[1].At)
	d := 2*a + c.Sides[0]
	switch c.Code {
	case cmd.Connected:
		return answer.Answer{Is: p.connected(a, b)}
	case cmd.SameFace:
		return answer.Answer{Is: slices.Contains(p.face(d), 2*b+c.Sides[1])}
	case cmd.Bridge:
		return answer.Answer{Is: p.bridge(a)}
	case cmd.Marked:
		return answer.Answer{Is: slices.Contains(p.tree(), a)}
	case cmd.FaceLen:
		return answer.Answer{N: len(p.face(d))}
	case cmd.Face:
		return p.sides(p.face(d))
	case cmd.Next:
		return p.sides([]int{p.next(d)})
	case cmd.Ends:
		return answer.Answer{Handles: []api.Handle{handleOf(p.vertices, p.origin(2*a)), handleOf(p.vertices, p.origin(2*a+1))}}
	case cmd.Counts:
		return answer.Answer{Counts: p.counts()}
	case cmd.Sum:
		return answer.Answer{Sum: p.sum()}
	}
	b2, err := model.Encode(p.model())
	if err != nil {
		panic(fmt.Sprint("the lists are no model: ", err))
	}
	return answer.Answer{Data: b2}
}

// sides are darts, as answers have them.
func (p *plain) sides(list []int) answer.Answer {
	var out []answer.Side
	for _, d := range list {
		out = append(out, answer.Side{Edge: handleOf(p.edges, d/2), At: d % 2})
	}
	return answer.Answer{Darts: out}
}

// both is a service that is asked by Do, another one that is asked by Frame, and
// the same as plain lists.
type both struct {
	t    *testing.T
	s, f *serve.Service
	p    *plain
}

func made(t *testing.T, n int) *serve.Service {
	t.Helper()
	s, err := serve.New(n)
	checkErr(t, "New", err, 0)
	if s == nil {
		t.Fatalf("New(%d): nil beside no error", n)
	}
	return s
}

func newBoth(t *testing.T, n int) both {
	t.Helper()
	return both{t, made(t, n), made(t, n), newPlain(n)}
}

// do does a command in all three, which have to answer alike.
func (b both) do(c cmd.Command) answer.Answer {
	b.t.Helper()
	before := c
	before.Data = slices.Clone(c.Data)
	got := b.s.Do(c)
	if !sameCommand(c, before) {
		b.t.Fatalf("%v: what was handed in was changed", before)
	}
	want := b.p.do(c)
	if !same(got, want) {
		b.t.Fatalf("%s: %v, want %v", tell(c), got, want)
	}
	b.frame(c, want)
	return got
}

// frame does a command as bytes, if it has any.
func (b both) frame(c cmd.Command, want answer.Answer) {
	b.t.Helper()
	code, err := cmd.Encode(c)
	if err != nil {
		return
	}
	before := slices.Clone(code)
	out := b.f.Frame(code)
	if !slices.Equal(code, before) {
		b.t.Fatalf("%s: the bytes that were handed in were changed", tell(c))
	}
	got, err := answer.Decode(c.Code, out)
	checkErr(b.t, "the frame's answer", err, 0)
	if !same(got, want) {
		b.t.Fatalf("%s as bytes: %v, want %v", tell(c), got, want)
	}
}

func sameCommand(a, b cmd.Command) bool {
	return a.Code == b.Code && a.Handles == b.Handles && a.Sides == b.Sides && a.W == b.W && slices.Equal(a.Data, b.Data)
}

// tell is a command as a text, of which not too much is told.
func tell(c cmd.Command) string {
	if len(c.Data) > 200 {
		c.Data = c.Data[:200]
	}
	return fmt.Sprintf("%+v", c)
}

// checkAll fails unless both services answer all that can be asked of what there
// is as the lists have it.
func (b both) checkAll() {
	b.t.Helper()
	for _, code := range []int{cmd.Counts, cmd.Sum, cmd.Dump} {
		b.do(cmd.Command{Code: code})
	}
	var darts []cmd.Command
	for _, e := range b.p.laid() {
		h := handleOf(b.p.edges, e)
		for _, code := range []int{cmd.Bridge, cmd.Marked, cmd.Ends} {
			b.do(edgeCommand(code, h))
		}
		for side := range 2 {
			darts = append(darts, dartCommand(cmd.Next, h, side))
		}
	}
	for _, c := range darts {
		for _, code := range []int{cmd.FaceLen, cmd.Face, cmd.Next} {
			c.Code = code
			b.do(c)
		}
		for _, d := range darts {
			b.do(sameFace(c, d))
		}
	}
	for _, v := range live(b.p.vertices) {
		for _, u := range live(b.p.vertices) {
			b.do(connected(handleOf(b.p.vertices, v), handleOf(b.p.vertices, u)))
		}
	}
	b.checkState()
}

// checkState fails unless State answers a state as the lists have it.
func (b both) checkState() {
	b.t.Helper()
	for _, s := range []*serve.Service{b.s, b.f} {
		state, err := s.State()
		checkErr(b.t, "State", err, 0)
		m, err := state.Model()
		checkErr(b.t, "Model of State", err, 0)
		if !sameModel(m, b.p.model()) {
			b.t.Fatalf("Model of State: %v, want %v", m, b.p.model())
		}
	}
}

// sameModel tells whether two models are one.
func sameModel(a, b model.Model) bool {
	return a.N == b.N && slices.Equal(a.Vertices, b.Vertices) && slices.Equal(a.Edges, b.Edges) && slices.Equal(a.L, b.L)
}

// Commands.

func edgeCommand(code int, h api.Handle) cmd.Command {
	return cmd.Command{Code: code, Handles: [2]api.Handle{h}}
}

func dartCommand(code int, h api.Handle, side int) cmd.Command {
	return cmd.Command{Code: code, Handles: [2]api.Handle{h}, Sides: [2]int{side}}
}

func sameFace(a, b cmd.Command) cmd.Command {
	return cmd.Command{Code: cmd.SameFace, Handles: [2]api.Handle{a.Handles[0], b.Handles[0]}, Sides: [2]int{a.Sides[0], b.Sides[0]}}
}

func connected(a, b api.Handle) cmd.Command {
	return cmd.Command{Code: cmd.Connected, Handles: [2]api.Handle{a, b}}
}

func insert(a api.Handle, sideA int, b api.Handle, sideB int, w int32) cmd.Command {
	return cmd.Command{Code: cmd.Insert, Handles: [2]api.Handle{a, b}, Sides: [2]int{sideA, sideB}, W: w}
}

func loadOf(b []byte) cmd.Command { return cmd.Command{Code: cmd.Load, Data: b} }
