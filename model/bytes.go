package model

import (
	"plait/api"
	"plait/arena"
	"plait/wire"
)

const (
	// wide is how many bytes each number has.
	wide = 4
	// stateWide is how many bytes tell what a place is.
	stateWide = 1
)

// Encode is a model as bytes.
func Encode(m Model) ([]byte, error) {
	if err := Check(m); err != nil {
		return nil, err
	}
	out := put(nil, uint32(m.N), uint32(len(m.Vertices)))
	for _, p := range m.Vertices {
		out = putPlace(out, p)
	}
	out = put(out, uint32(len(m.Edges)))
	for e, p := range m.Edges {
		out = putPlace(out, p)
		if p.Is == arena.Live {
			out = putEdge(out, m.L[e])
		}
	}
	return out, nil
}

// Decode is the model of bytes.
func Decode(b []byte) (Model, error) {
	r := reader{left: b}
	m := Model{N: int(r.number())}
	m.Vertices = make([]arena.Place, r.many())
	for v := range m.Vertices {
		m.Vertices[v] = r.place()
	}
	m.Edges = make([]arena.Place, r.many())
	m.L = make([]Edge, len(m.Edges))
	for e := range m.Edges {
		m.Edges[e] = r.place()
		if m.Edges[e].Is == arena.Live {
			m.L[e] = r.edge()
		}
	}
	if r.wrong || len(r.left) > 0 || Check(m) != nil {
		return Model{}, api.ErrLoad
	}
	return m, nil
}

// put lays numbers behind bytes that are this package's own.
func put(b []byte, l ...uint32) []byte {
	for _, v := range l {
		// wire.Put copies what it lays a number behind: all of b, each time.
		b = append(b, wire.Put(nil, uint64(v), wide)...)
	}
	return b
}

func putPlace(b []byte, p arena.Place) []byte {
	b = put(b, p.Age)
	return append(b, wire.Put(nil, uint64(p.Is), stateWide)...)
}

func putEdge(b []byte, e Edge) []byte {
	for side, v := range e.From {
		b = put(b, v, e.Next[side])
	}
	return put(b, uint32(e.W))
}

// reader takes numbers off bytes, from the first one on.
type reader struct {
	left []byte
	// wrong is whether they were found to be no model's; what is not there is
	// taken as 0 then.
	wrong bool
}

func (r *reader) take(n int) uint64 {
	// wire.Take copies what stands behind the number: it is given no more than
	// that has.
	v, _, err := wire.Take(r.left[:min(n, len(r.left))], n)
	if err != nil {
		r.wrong = true
		return 0
	}
	r.left = r.left[n:]
	return v
}

func (r *reader) number() uint32 { return uint32(r.take(wide)) }

// many is how many places follow: none, if there may not be so many, or the bytes
// are too few for them, so that a number that is wrong takes no memory.
func (r *reader) many() int {
	n := r.number()
	if n > api.MaxSlots || uint64(n)*(wide+stateWide) > uint64(len(r.left)) {
		r.wrong = true
		return 0
	}
	return int(n)
}

func (r *reader) place() arena.Place {
	age := r.number()
	return arena.Place{Age: age, Is: arena.State(r.take(stateWide))}
}

func (r *reader) edge() Edge {
	var e Edge
	for side := range e.From {
		e.From[side] = r.number()
		e.Next[side] = r.number()
	}
	e.W = wire.Signed(r.take(wide))
	return e
}
