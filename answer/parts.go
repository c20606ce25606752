package answer

import (
	"math"

	"plait/api"
	"plait/cmd"
	"plait/sphere"
)

const (
	// maxErr is the greatest number of an error: it has to go into one byte.
	maxErr = math.MaxUint8
	// maxDarts is how many darts an answer has at most.
	maxDarts = 1 << 22
	// maxData is how many bytes an answer's data has at most: with the error's
	// number they have to go into a frame.
	maxData = api.MaxFrame - 1
)

// parts is what the answers of a code have.
type parts struct {
	handles int
	// dart is a single dart; face is the darts round a face, as many as there are.
	dart, face               bool
	is, n, counts, sum, data bool
}

func isCode(code int) bool { return code >= cmd.None && code < cmd.Codes }

// partsOf is what an answer of a code has with such an error, and whether there is
// such an answer.
func partsOf(code, err int) (parts, bool) {
	if err != 0 {
		return parts{}, err > 0 && err <= maxErr
	}
	switch code {
	case cmd.DropVertex, cmd.Delete, cmd.Weigh, cmd.Load:
		return parts{}, true
	case cmd.AddVertex, cmd.Insert:
		return parts{handles: 1}, true
	case cmd.Ends:
		return parts{handles: 2}, true
	case cmd.Connected, cmd.SameFace, cmd.Bridge, cmd.Marked:
		return parts{is: true}, true
	case cmd.FaceLen:
		return parts{n: true}, true
	case cmd.Face:
		return parts{face: true}, true
	case cmd.Next:
		return parts{dart: true}, true
	case cmd.Counts:
		return parts{counts: true}, true
	case cmd.Sum:
		return parts{sum: true}, true
	case cmd.Dump:
		return parts{data: true}, true
	}
	return parts{}, false
}

// check is what an answer of a code has, or an error, if it may not be.
func check(code int, a Answer) (parts, error) {
	if !isCode(code) {
		return parts{}, api.ErrCode
	}
	p, ok := partsOf(code, a.Err)
	if !ok || !p.all(a) || !p.fit(a.Darts) || !inRange(a) {
		return parts{}, api.ErrArg
	}
	return p, nil
}

// all tells whether these are all parts that an answer has, any other being zero;
// of the darts and of the data fit and inRange tell more.
func (p parts) all(a Answer) bool {
	return len(a.Handles) == p.handles &&
		(p.is || !a.Is) &&
		(p.n || a.N == 0) &&
		(p.counts || a.Counts == sphere.Counts{}) &&
		(p.sum || a.Sum == 0) &&
		(p.data || len(a.Data) == 0)
}

// fit tells whether there may be just so many darts, and each is one.
func (p parts) fit(l []Side) bool {
	if !p.holds(len(l)) {
		return false
	}
	for _, d := range l {
		if d.At != 0 && d.At != 1 {
			return false
		}
	}
	return true
}

// holds tells whether there may be just so many darts.
func (p parts) holds(n int) bool {
	switch {
	case p.face:
		return n <= maxDarts
	case p.dart:
		return n == 1
	}
	return n == 0
}

// inRange tells whether the numbers go into their bytes, and the data into a frame.
func inRange(a Answer) bool {
	for _, n := range numbers(a.Counts) {
		if !isNumber(n) {
			return false
		}
	}
	return isNumber(a.N) && len(a.Data) <= maxData
}

func isNumber(n int) bool { return n >= 0 && uint64(n) <= math.MaxUint32 }

// numbers are counts in the order in which they are told.
func numbers(c sphere.Counts) [4]int { return [4]int{c.V, c.E, c.F, c.C} }
