package core

import (
	"slices"

	"plait/api"
	"plait/turn"
)

// first is the first of some errors that is one.
func first(list ...error) error {
	for _, err := range list {
		if err != nil {
			return err
		}
	}
	return nil
}

// known answers an error unless these numbers are all below many.
func (m *Map) known(many int, list ...int) error {
	if m == nil {
		return api.ErrArg
	}
	if slices.ContainsFunc(list, func(x int) bool { return x < 0 || x >= many }) {
		return api.ErrRange
	}
	return nil
}

// present answers an error unless all of these are laid.
func present(laid func(x int) bool, list ...int) error {
	if slices.ContainsFunc(list, func(x int) bool { return !laid(x) }) {
		return api.ErrStale
	}
	return nil
}

// vacant answers an error, if one is laid.
func vacant(laid func(x int) bool, x int) error {
	if laid(x) {
		return api.ErrSame
	}
	return nil
}

// fits answers an error unless an edge may be laid between two corners.
func (m *Map) fits(a, b turn.Corner) error {
	legal, err := m.Legal(a, b)
	if err != nil {
		return err
	}
	if !legal {
		return api.ErrGenus
	}
	return nil
}

// lookVertices answers an error unless these are vertices that are laid.
func (m *Map) lookVertices(list ...int) error {
	return first(m.known(m.Room(), list...), present(m.Live, list...))
}

// lookEdge answers an error unless this is an edge that is laid.
func (m *Map) lookEdge(e int) error {
	return first(m.known(m.Room(), e), present(m.Has, e))
}

// lookDarts answers an error unless these are darts that are laid.
func (m *Map) lookDarts(list ...int) error {
	return first(m.known(2*m.Room(), list...), present(m.hasDart, list...))
}

// hasDart tells whether a dart is laid.
func (m *Map) hasDart(d int) bool { return m.Has(d >> 1) }
