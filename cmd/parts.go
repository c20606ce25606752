package cmd

import "plait/api"

const (
	// dartSides is how many sides a dart may have, and cornerSides how many a
	// corner may: beside a dart's two, 0 tells that its vertex has none.
	dartSides   = 2
	cornerSides = 3
)

// parts is what the commands of a code have.
type parts struct {
	handles int
	// sides is how many sides there are for each handle to have one of: 0, if it
	// has none.
	sides   int
	w, data bool
}

// partsOf is what a command of a code has, and whether there is such a code.
func partsOf(code int) (parts, bool) {
	switch code {
	case AddVertex, Counts, Sum, Dump:
		return parts{}, true
	case DropVertex, Delete, Bridge, Marked, Ends:
		return parts{handles: 1}, true
	case Connected:
		return parts{handles: 2}, true
	case Weigh:
		return parts{handles: 1, w: true}, true
	case FaceLen, Face, Next:
		return parts{handles: 1, sides: dartSides}, true
	case SameFace:
		return parts{handles: 2, sides: dartSides}, true
	case Insert:
		return parts{handles: 2, sides: cornerSides, w: true}, true
	case Load:
		return parts{data: true}, true
	}
	return parts{}, false
}

// fit tells whether each side that there has to be is one.
func (p parts) fit(sides [2]int) bool {
	if p.sides == 0 {
		return true
	}
	for _, s := range sides[:p.handles] {
		if s < 0 || s >= p.sides {
			return false
		}
	}
	return true
}

// all tells whether these are all parts that a command has, any other being zero.
func (p parts) all(c Command) bool {
	for i, h := range c.Handles {
		if i >= p.handles && h != (api.Handle{}) {
			return false
		}
		if (i >= p.handles || p.sides == 0) && c.Sides[i] != 0 {
			return false
		}
	}
	return (p.w || c.W == 0) && (p.data || len(c.Data) == 0)
}

// size is how many bytes there are behind the code, but for the data.
func (p parts) size() int {
	n := p.handles * handleWide
	if p.sides > 0 {
		n += p.handles * sideWide
	}
	if p.w {
		n += wide
	}
	return n
}

// holds tells whether there may be so many bytes behind the code.
func (p parts) holds(n int) bool {
	if p.data {
		return n <= maxData
	}
	return n == p.size()
}
