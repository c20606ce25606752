package core

import (
	"plait/edges"
	"plait/face"
	"plait/sphere"
	"plait/turn"
)

// Legal tells whether an edge may be laid between two corners.
func (m *Map) Legal(a, b turn.Corner) (bool, error) {
	if err := first(m.Check(a), m.Check(b)); err != nil {
		return false, err
	}
	joined, err := m.Connected(a.Vertex, b.Vertex)
	if err != nil {
		return false, err
	}
	if !joined || a == b {
		return true, nil
	}
	// A vertex without darts is joined with none, and has but one corner: both
	// corners here are behind darts.
	x, y, err := m.into(a, b)
	if err != nil {
		return false, err
	}
	return m.faces.Same(x, y)
}

// Room is for how many vertices, and edges, there is room.
func (m *Map) Room() int {
	if m == nil {
		return 0
	}
	return m.n
}

// Live tells whether a vertex is laid.
func (m *Map) Live(v int) bool {
	return m != nil && v >= 0 && v < len(m.live) && m.live[v]
}

// Has tells whether an edge is laid.
func (m *Map) Has(e int) bool { return m.round().Has(e) }

// Connected tells whether two vertices hang together.
func (m *Map) Connected(a, b int) (bool, error) {
	if err := m.lookVertices(a, b); err != nil {
		return false, err
	}
	return m.trees.Same(vertexNode(a), vertexNode(b))
}

// SameFace tells whether two darts are of one face.
func (m *Map) SameFace(a, b int) (bool, error) {
	if err := m.lookDarts(a, b); err != nil {
		return false, err
	}
	return m.faces.Same(a, b)
}

// FaceLen is how many darts a dart's face has.
func (m *Map) FaceLen(d int) (int, error) {
	if err := m.lookDarts(d); err != nil {
		return 0, err
	}
	return m.faces.Len(d)
}

// Face are the darts of a face, from one on.
func (m *Map) Face(d int) ([]int, error) { return face.Walk(m.round(), d) }

// Bridge tells whether an edge is one.
func (m *Map) Bridge(e int) (bool, error) {
	if err := m.lookEdge(e); err != nil {
		return false, err
	}
	// On a sphere an edge that is none closes a ring, which parts its two sides.
	d := sides(e)
	return m.faces.Same(d[0], d[1])
}

// Marked tells whether an edge is of the least trees.
func (m *Map) Marked(e int) (bool, error) {
	if err := m.lookEdge(e); err != nil {
		return false, err
	}
	return !m.faces.Tied(e), nil
}

// Weight is an edge's weight.
func (m *Map) Weight(e int) (int32, error) {
	if err := m.lookEdge(e); err != nil {
		return 0, err
	}
	return edges.Weight(m.keys[e]), nil
}

// Sum is the least trees' weight.
func (m *Map) Sum() int64 {
	if m == nil {
		return 0
	}
	return m.sum
}

// Counts are how many vertices, edges, faces and components there are.
func (m *Map) Counts() sphere.Counts {
	if m == nil {
		return sphere.Counts{}
	}
	// Each marked edge makes one component of two; and each component's
	// vertices, less its edges, and its faces are 2.
	parts := m.vertices - m.marked
	return sphere.Counts{V: m.vertices, E: m.laid, F: 2*parts - m.vertices + m.laid, C: parts}
}

// Next is the dart behind one, round its vertex.
func (m *Map) Next(d int) (int, error) { return m.round().Next(d) }

// Origin is the vertex of a dart.
func (m *Map) Origin(d int) (int, error) { return m.round().Origin(d) }

// Check is an error, if there is no such corner.
func (m *Map) Check(c turn.Corner) error {
	return first(m.lookVertices(c.Vertex), m.round().Check(c))
}

// round are the turns that a Map keeps; of a nil one nil, of which each call
// answers what is asked for here.
func (m *Map) round() *turn.Turns {
	if m == nil {
		return nil
	}
	return m.turns
}
