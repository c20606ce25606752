package turn

import "plait/api"

// dart is what is kept of one.
type dart struct {
	// next and prev are the darts behind it and ahead of it, round its vertex:
	// the dart itself, if it is alone there.
	next, prev int32
	// origin is its vertex; None, if it is not laid.
	origin int32
}

// stand is what is kept of a vertex.
type stand struct {
	degree int32
	// some is one of its darts; it tells nothing, if there is none.
	some int32
}

// nowhere is a dart that is not laid.
func nowhere() dart { return dart{origin: None} }

// laid tells whether a dart stands anywhere.
func (d dart) laid() bool { return d.origin != None }

// sides are the darts of an edge that there is.
func sides(e int) (first, second int) { return 2 * e, 2*e + 1 }

// at is what is kept of a dart; a number that is none is not laid.
func (t *Turns) at(d int) dart {
	if d < 0 || d >= len(t.darts) {
		return nowhere()
	}
	return t.darts[d]
}

// find is a dart that is laid, or the error of one that is not.
func (t *Turns) find(d int) (dart, error) {
	if t == nil {
		return dart{}, api.ErrArg
	}
	if !t.covers(d) {
		return dart{}, api.ErrRange
	}
	found := t.at(d)
	if !found.laid() {
		return dart{}, api.ErrStale
	}
	return found, nil
}

// covers tells whether there is such a dart, laid or not.
func (t *Turns) covers(d int) bool { return d >= 0 && d < 2*t.edges }

// holds tells whether an edge is laid, or answers an error, if there is none
// such.
func (t *Turns) holds(e int) (bool, error) {
	if t == nil {
		return false, api.ErrArg
	}
	if e < 0 || e >= t.edges {
		return false, api.ErrRange
	}
	// Its darts are laid together.
	first, _ := sides(e)
	return t.at(first).laid(), nil
}

// stand is what is kept of a vertex, or an error, if there is none such.
func (t *Turns) stand(v int) (stand, error) {
	if t == nil {
		return stand{}, api.ErrArg
	}
	if v < 0 || v >= t.vertices {
		return stand{}, api.ErrRange
	}
	if v >= len(t.stands) {
		return stand{}, nil
	}
	return t.stands[v], nil
}

// least is the least dart of a vertex that has any.
func (t *Turns) least(s stand) int32 {
	d, least := s.some, s.some
	for range s.degree {
		least = min(least, d)
		d = t.darts[d].next
	}
	return least
}

// put lays a dart that is not laid at a corner that there is.
func (t *Turns) put(d int, c Corner) {
	t.reach(d, c.Vertex)
	own := int32(d)
	next, prev := own, own
	if c.Behind != None {
		prev = int32(c.Behind)
		next = t.darts[prev].next
	}
	t.darts[d] = dart{next: next, prev: prev, origin: int32(c.Vertex)}
	t.darts[prev].next = own
	t.darts[next].prev = own
	s := &t.stands[c.Vertex]
	s.degree++
	s.some = own
}

// take takes away a dart that is laid.
func (t *Turns) take(d int) {
	was := t.darts[d]
	t.darts[was.prev].next = was.next
	t.darts[was.next].prev = was.prev
	t.darts[d] = nowhere()
	s := &t.stands[was.origin]
	s.degree--
	s.some = was.next
}

// reach makes darts up to one, and stands up to a vertex.
func (t *Turns) reach(d, v int) {
	for len(t.darts) <= d {
		t.darts = append(t.darts, nowhere())
	}
	for len(t.stands) <= v {
		t.stands = append(t.stands, stand{})
	}
}

// fill lays darts round a vertex that has none, one behind another; false, if
// one of them is none, or laid already.
func (t *Turns) fill(v int, list []int) bool {
	c := Corner{Vertex: v, Behind: None}
	for _, d := range list {
		if !t.covers(d) || t.at(d).laid() {
			return false
		}
		t.put(d, c)
		c.Behind = d
	}
	return true
}

// paired tells whether each dart that is laid has its twin laid.
func (t *Turns) paired() bool {
	for e := range (len(t.darts) + 1) / 2 {
		first, second := sides(e)
		if t.at(first).laid() != t.at(second).laid() {
			return false
		}
	}
	return true
}
