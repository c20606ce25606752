package core

import (
	"plait/face"
	"plait/turn"
)

// lay lays an edge, which is in neither tree then, between two corners between
// which it may be laid.
func (m *Map) lay(e int, a, b turn.Corner) error {
	x, y, err := m.into(a, b)
	if err != nil {
		return err
	}
	if err := m.turns.Lay(e, a, b); err != nil {
		return err
	}
	m.laid++
	if x == turn.None && a == b {
		// Each side of a loop that stands alone is a face alone, as its dart is.
		return nil
	}
	d := sides(e)
	// What a corner looks into stands behind the dart that leads there. Where both
	// corners are one, that is the second dart, as in the turns: it comes last.
	return first(m.slip(d[0], y), m.slip(d[1], x), m.splice(d[0], d[1]))
}

// lift takes away an edge that is in neither tree. It does what lay does the
// other way round.
func (m *Map) lift(e int) error {
	m.laid--
	d := sides(e)
	return first(m.splice(d[0], d[1]), m.single(d[0]), m.single(d[1]), m.turns.Lift(e))
}

// splice lets each of two darts stand behind what stood ahead of the other one,
// round their faces: one face falls in two, or two become one. The trees across
// the faces fall apart, or grow together, with them.
func (m *Map) splice(a, b int) error {
	same, err := m.faces.Same(a, b)
	if err != nil {
		return err
	}
	if same {
		return m.faces.Split(a, b)
	}
	return m.faces.Merge(a, b)
}

// slip lets a dart that is alone stand ahead of another one, if there is one.
func (m *Map) slip(d, x int) error {
	if x == turn.None {
		return nil
	}
	return m.splice(d, x)
}

// single takes a dart out of its face, unless it is alone.
func (m *Map) single(d int) error {
	size, err := m.faces.Len(d)
	if err != nil || size == 1 {
		return err
	}
	return m.faces.Apart(d)
}

// into are the darts whose faces two corners that there are look into.
func (m *Map) into(a, b turn.Corner) (x, y int, err error) {
	x, err = face.At(m.turns, a)
	if err != nil {
		return 0, 0, err
	}
	y, err = face.At(m.turns, b)
	return x, y, err
}

// sides are the darts of an edge.
func sides(e int) [2]int { return [2]int{2 * e, 2*e + 1} }
