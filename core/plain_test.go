package core_test

import (
	"cmp"
	"errors"
	"math"
	"slices"
	"testing"

	"plait/api"
	"plait/core"
	"plait/sphere"
	"plait/turn"
)

// most is how much room there is at most.
const most = 1 << 20

// none is no dart, as the document has it.
const none = -1

// far are numbers that are no vertex, edge or dart; twice some of them, or half,
// is a small number, cut to 64 bits, or to 32.
var far = []int{-1, -2, -3, math.MinInt, math.MinInt + 1, math.MinInt32, -1 << 32, -1 << 62, 2 * most, 2*most + 1, 4 * most, math.MaxInt32, 1 << 31, math.MaxUint32, 1 << 32, 1<<32 + 1, 1 << 33, 1 << 62, 1<<62 + 1, math.MaxInt - 1, math.MaxInt}

// checkErr fails unless err is the number want (0: nil), as errors.As finds it.
func checkErr(t *testing.T, what string, err error, want api.Errno) {
	t.Helper()
	if want == 0 {
		if err != nil {
			t.Fatalf("%s: error %v, want none", what, err)
		}
		return
	}
	var e api.Errno
	if !errors.As(err, &e) || e != want {
		t.Fatalf("%s: error %v, want %v", what, err, want)
	}
}

// check fails unless a call answered just that.
func check[T comparable](t *testing.T, what string, got T, err error, want T, wantErr api.Errno) {
	t.Helper()
	checkErr(t, what, err, wantErr)
	if got != want {
		t.Fatalf("%s: %v, want %v", what, got, want)
	}
}

func made(t *testing.T, n int) *core.Map {
	t.Helper()
	m, err := core.New(n)
	checkErr(t, "New", err, 0)
	if m == nil {
		t.Fatalf("New(%d): nil beside no error", n)
	}
	return m
}

// behind is the corner behind a dart, and alone that of a vertex without any.
func behind(v, d int) turn.Corner { return turn.Corner{Vertex: v, Behind: d} }
func alone(v int) turn.Corner     { return turn.Corner{Vertex: v, Behind: none} }

// upTo are the numbers below n.
func upTo(n int) []int {
	out := make([]int, n)
	for v := range out {
		out[v] = v
	}
	return out
}

// other is a dart's twin.
func other(d int) int {
	if d%2 == 0 {
		return d + 1
	}
	return d - 1
}

// plain is a map as plain lists, gone over anew for each question: which
// vertices are laid, which darts stand round each, and the edges' weights.
type plain struct {
	n    int
	live []bool
	rows [][]int
	w    []int32
}

func newPlain(n int) *plain {
	return &plain{n: n, live: make([]bool, n), rows: make([][]int, n), w: make([]int32, n)}
}

// plainOf is the map that Of is to make.
func plainOf(n int, vertices []int, rows [][]int, w []int32) *plain {
	p := newPlain(n)
	for _, v := range vertices {
		p.live[v] = true
	}
	for v, row := range rows {
		p.rows[v] = slices.Clone(row)
	}
	copy(p.w, w)
	return p
}

func (p *plain) clone() *plain {
	return plainOf(p.n, p.vertices(), p.rows, p.w)
}

// vertices are those that are laid.
func (p *plain) vertices() []int {
	var out []int
	for v, is := range p.live {
		if is {
			out = append(out, v)
		}
	}
	return out
}

// of makes the Map of the lists, by Of.
func (p *plain) of(t *testing.T) *core.Map {
	t.Helper()
	m, err := core.Of(p.n, p.vertices(), p.rows, p.w)
	checkErr(t, "Of", err, 0)
	if m == nil {
		t.Fatal("Of: nil beside no error")
	}
	return m
}

// origin is where a dart stands, or none.
func (p *plain) origin(d int) int {
	return slices.IndexFunc(p.rows, func(row []int) bool { return slices.Contains(row, d) })
}

// after is the dart behind one that is laid, round its vertex.
func (p *plain) after(d int) int {
	row := p.rows[p.origin(d)]
	return row[(slices.Index(row, d)+1)%len(row)]
}

// walk is the face of a dart that is laid, from that on.
func (p *plain) walk(d int) []int {
	out := []int{d}
	for x := p.after(other(d)); x != d; x = p.after(other(x)) {
		out = append(out, x)
	}
	return out
}

func (p *plain) has(e int) bool {
	return e >= 0 && e < p.n && p.origin(2*e) != none
}

// laid are the edges that are.
func (p *plain) laid() []int {
	return slices.DeleteFunc(upTo(p.n), func(e int) bool { return !p.has(e) })
}

// joined tells of each vertex whether edges of a list join it with a vertex.
func (p *plain) joined(v int, list []int) []bool {
	out := make([]bool, p.n)
	out[v] = true
	for more := true; more; {
		more = false
		for _, e := range list {
			a, b := p.origin(2*e), p.origin(2*e+1)
			if out[a] != out[b] {
				out[a], out[b], more = true, true, true
			}
		}
	}
	return out
}

func (p *plain) connected(a, b int) bool { return p.joined(a, p.laid())[b] }

// bridge tells whether an edge that is laid is one.
func (p *plain) bridge(e int) bool {
	others := slices.DeleteFunc(p.laid(), func(x int) bool { return x == e })
	return !p.joined(p.origin(2*e), others)[p.origin(2*e+1)]
}

// tree are the least trees' edges, the least one first.
func (p *plain) tree() []int {
	list := p.laid()
	slices.SortStableFunc(list, func(a, b int) int { return cmp.Compare(p.w[a], p.w[b]) })
	var out []int
	for _, e := range list {
		if !p.joined(p.origin(2*e), out)[p.origin(2*e+1)] {
			out = append(out, e)
		}
	}
	return out
}

func (p *plain) sum() int64 {
	var sum int64
	for _, e := range p.tree() {
		sum += int64(p.w[e])
	}
	return sum
}

// faces are all faces that have darts, each from its least dart on.
func (p *plain) faces() [][]int {
	var out [][]int
	for d := range 2 * p.n {
		if !p.has(d / 2) {
			continue
		}
		if list := p.walk(d); slices.Min(list) == d {
			out = append(out, list)
		}
	}
	return out
}

// counts are those of the part that a vertex is in, or of all (none).
func (p *plain) counts(part int) sphere.Counts {
	var c sphere.Counts
	in := func(v int) bool { return part == none || p.connected(part, v) }
	for _, v := range p.vertices() {
		if !in(v) {
			continue
		}
		c.V++
		if len(p.rows[v]) == 0 {
			c.F++
		}
		if slices.Index(p.joined(v, p.laid()), true) == v {
			c.C++
		}
	}
	for _, e := range p.laid() {
		if in(p.origin(2 * e)) {
			c.E++
		}
	}
	for _, list := range p.faces() {
		if in(p.origin(list[0])) {
			c.F++
		}
	}
	return c
}

// flat tells whether each part lies on a sphere.
func (p *plain) flat() bool {
	for _, v := range p.vertices() {
		if c := p.counts(v); c.V-c.E+c.F != 2 {
			return false
		}
	}
	return true
}

// The errors, as the chapter has them.

// wrong is the error of numbers of which there are so many.
func wrong(many int, laid func(int) bool, list ...int) api.Errno {
	for _, x := range list {
		if x < 0 || x >= many {
			return api.ErrRange
		}
	}
	for _, x := range list {
		if !laid(x) {
			return api.ErrStale
		}
	}
	return 0
}

func (p *plain) wrongVertex(list ...int) api.Errno {
	return wrong(p.n, func(v int) bool { return p.live[v] }, list...)
}

func (p *plain) wrongEdge(e int) api.Errno { return wrong(p.n, p.has, e) }

func (p *plain) wrongDart(list ...int) api.Errno {
	return wrong(2*p.n, func(d int) bool { return p.has(d / 2) }, list...)
}

func (p *plain) wrongCorner(c turn.Corner) api.Errno {
	if err := p.wrongVertex(c.Vertex); err != 0 {
		return err
	}
	row := p.rows[c.Vertex]
	if c.Behind == none && len(row) == 0 || slices.Contains(row, c.Behind) {
		return 0
	}
	return api.ErrStale
}

// legal tells whether an edge between two corners may be laid: it looks into one
// face, or joins two parts.
func (p *plain) legal(a, b turn.Corner) (bool, api.Errno) {
	for _, c := range []turn.Corner{a, b} {
		if err := p.wrongCorner(c); err != 0 {
			return false, err
		}
	}
	if a == b || !p.connected(a.Vertex, b.Vertex) {
		return true, 0
	}
	return slices.Contains(p.walk(p.after(a.Behind)), p.after(b.Behind)), 0
}

// corners are all that there are.
func (p *plain) corners() []turn.Corner {
	var out []turn.Corner
	for _, v := range p.vertices() {
		if len(p.rows[v]) == 0 {
			out = append(out, alone(v))
		}
		for _, d := range p.rows[v] {
			out = append(out, behind(v, d))
		}
	}
	return out
}

// nearby are corners, and others like them that there are not.
func (p *plain) nearby() []turn.Corner {
	var out []turn.Corner
	for v := -1; v <= p.n; v++ {
		for d := -2; d <= 2*p.n; d++ {
			out = append(out, behind(v, d))
		}
	}
	return out
}

// What is done, with its error.

func (p *plain) addVertex(v int) api.Errno {
	switch {
	case v < 0 || v >= p.n:
		return api.ErrRange
	case p.live[v]:
		return api.ErrSame
	}
	p.live[v] = true
	return 0
}

func (p *plain) dropVertex(v int) api.Errno {
	if err := p.wrongVertex(v); err != 0 {
		return err
	}
	if len(p.rows[v]) > 0 {
		return api.ErrBusy
	}
	p.live[v] = false
	return 0
}

// put lays a dart behind another one, or alone.
func (p *plain) put(d int, c turn.Corner) {
	row := p.rows[c.Vertex]
	p.rows[c.Vertex] = slices.Insert(row, slices.Index(row, c.Behind)+1, d)
}

func (p *plain) join(e int, a, b turn.Corner, w int32) api.Errno {
	if e < 0 || e >= p.n {
		return api.ErrRange
	}
	if p.has(e) {
		return api.ErrSame
	}
	legal, err := p.legal(a, b)
	if err != 0 {
		return err
	}
	if !legal {
		return api.ErrGenus
	}
	p.put(2*e, a)
	if b == alone(a.Vertex) {
		b.Behind = 2 * e
	}
	p.put(2*e+1, b)
	p.w[e] = w
	return 0
}

func (p *plain) part(e int) api.Errno {
	if err := p.wrongEdge(e); err != 0 {
		return err
	}
	for v, row := range p.rows {
		p.rows[v] = slices.DeleteFunc(slices.Clone(row), func(d int) bool { return d/2 == e })
	}
	p.w[e] = 0
	return 0
}

func (p *plain) weigh(e int, w int32) api.Errno {
	if err := p.wrongEdge(e); err != 0 {
		return err
	}
	p.w[e] = w
	return 0
}
