package core

import (
	"plait/face"
	"plait/span"
)

// fill lays vertices in a map that has none, and takes in all that stands in its
// turns.
func (m *Map) fill(vertices []int, w []int32) error {
	for _, v := range vertices {
		if err := m.AddVertex(v); err != nil {
			return err
		}
	}
	if err := m.takeFaces(); err != nil {
		return err
	}
	return m.takeEdges(w)
}

// takeFaces makes cycles of the faces that have darts.
func (m *Map) takeFaces() error {
	for _, darts := range face.All(m.turns) {
		for _, d := range darts[1:] {
			if err := m.faces.Merge(darts[0], d); err != nil {
				return err
			}
		}
	}
	return nil
}

// takeEdges puts each edge into the tree that it belongs to.
func (m *Map) takeEdges(w []int32) error {
	places, list := m.listed(w)
	marks, _, err := span.Tree(m.n, list)
	if err != nil {
		return err
	}
	m.laid = len(places)
	for i, e := range places {
		put := m.tie
		if marks[i] {
			put = m.mark
		}
		if err := first(m.weigh(e, list[i].W), put(e)); err != nil {
			return err
		}
	}
	return nil
}

// listed are the edges that are laid, ascending, so that of two of one weight
// the lower one is the lesser one in the list too; an edge for which w has no
// number weighs 0.
func (m *Map) listed(w []int32) (places []int, list []span.Edge) {
	for e := range m.n {
		if !m.turns.Has(e) {
			continue
		}
		at := m.ends(e)
		x := span.Edge{A: at[0], B: at[1]}
		if e < len(w) {
			x.W = w[e]
		}
		places, list = append(places, e), append(list, x)
	}
	return places, list
}
