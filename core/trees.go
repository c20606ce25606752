package core

import "plait/edges"

// none is no edge.
const none = -1

// settle puts an edge that is laid, and in neither tree, into the one where it
// belongs. If its ends are joined without it, it closes a ring, of which the
// greatest edge is to be the tie.
func (m *Map) settle(e int) error {
	at := m.ends(e)
	from, to := vertexNode(at[0]), vertexNode(at[1])
	joined, err := m.trees.Same(from, to)
	if err != nil {
		return err
	}
	if !joined {
		return m.mark(e)
	}
	top, err := m.trees.Most(from, to)
	if err != nil {
		return err
	}
	x := edgeOf(top)
	if x == none || m.keys[x] < m.keys[e] {
		return m.tie(e)
	}
	return first(m.unmark(x), m.mark(e), m.tie(x))
}

// release takes an edge out of the tree that it is in. For a marked one the least
// edge that joins the parts into which its tree falls stands in: on a sphere
// those edges are the ties that lead from its one side to the other.
func (m *Map) release(e int) error {
	if m.faces.Tied(e) {
		return m.faces.Untie(e)
	}
	d := sides(e)
	x, err := m.faces.Weakest(d[0], d[1])
	if err != nil {
		return err
	}
	if x == none {
		return m.unmark(e)
	}
	return first(m.unmark(e), m.faces.Untie(x), m.mark(x))
}

// mark puts an edge that is in neither tree into the least one.
func (m *Map) mark(e int) error {
	m.marked++
	m.sum += int64(edges.Weight(m.keys[e]))
	return first(m.trees.Set(edgeNode(e), m.keys[e]), m.each(e, m.trees.Link))
}

// unmark takes a marked edge out of its tree.
func (m *Map) unmark(e int) error {
	m.marked--
	m.sum -= int64(edges.Weight(m.keys[e]))
	return m.each(e, m.trees.Cut)
}

// tie makes an edge that is in neither tree a tie.
func (m *Map) tie(e int) error {
	d := sides(e)
	return m.faces.Tie(e, d[0], d[1], m.keys[e])
}

// each does a thing with an edge's node and that of the vertex at each of its
// ends.
func (m *Map) each(e int, do func(a, b int) error) error {
	for _, v := range m.ends(e) {
		if err := do(edgeNode(e), vertexNode(v)); err != nil {
			return err
		}
	}
	return nil
}

// ends are the vertices at the ends of an edge that is laid.
func (m *Map) ends(e int) [2]int {
	var at [2]int
	for i, d := range sides(e) {
		at[i], _ = m.turns.Origin(d)
	}
	return at
}

// Vertices and edges are nodes by turns. So the first of both are the first
// nodes, and trees that make room up to the last node in use stay small.

// nodes is how many there are for n vertices and n edges.
func nodes(n int) int { return 2 * n }

// vertexNode is the node of a vertex.
func vertexNode(v int) int { return 2 * v }

// edgeNode is the node of an edge.
func edgeNode(e int) int { return 2*e + 1 }

// edgeOf is the edge of a node; none: it is a vertex's.
func edgeOf(at int) int {
	if at%2 == 0 {
		return none
	}
	return at / 2
}
