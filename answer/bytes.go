package answer

import (
	"plait/api"
	"plait/sphere"
	"plait/wire"
)

const (
	// errWide, bitWide, sumWide and wide are how many bytes an error's number, a
	// yes or no, a sum, and each other number has.
	errWide = 1
	bitWide = 1
	sumWide = 8
	wide    = 4
	// handleWide and dartWide are how many bytes a handle and a dart have.
	handleWide = 2 * wide
	dartWide   = bitWide + handleWide
	// headWide is how many bytes an answer has at most, but for darts and data.
	headWide = errWide + 4*wide
	// ageAt is where a handle's age stands, as a part of its bytes' number.
	ageAt = 8 * wide
)

// put lays a number behind bytes that are this package's own.
func put(b []byte, v uint64, n int) []byte {
	// wire.Put copies what it lays a number behind: all of b, each time.
	return append(b, wire.Put(nil, v, n)...)
}

func putHandle(b []byte, h api.Handle) []byte {
	return put(b, uint64(h.Age)<<ageAt|uint64(h.At), handleWide)
}

func putDart(b []byte, d Side) []byte {
	return putHandle(put(b, uint64(d.At), bitWide), d.Edge)
}

// bit is 1 of yes, and 0 of no.
func bit(is bool) uint64 {
	if is {
		return 1
	}
	return 0
}

// reader takes numbers off bytes, from the first one on.
type reader struct {
	left []byte
	// wrong is whether they were found to be no answer's; what is not there is
	// taken as 0 then.
	wrong bool
}

func (r *reader) take(n int) uint64 {
	// wire.Take copies what stands behind the number: it is given no more than
	// that has.
	v, _, err := wire.Take(r.left[:min(n, len(r.left))], n)
	if err != nil {
		r.wrong = true
		return 0
	}
	r.left = r.left[n:]
	return v
}

func (r *reader) bit() bool {
	v := r.take(bitWide)
	r.wrong = r.wrong || v > 1
	return v == 1
}

func (r *reader) handle() api.Handle {
	v := r.take(handleWide)
	return api.Handle{Age: uint32(v >> ageAt), At: uint32(v)}
}

func (r *reader) dart() Side {
	at := int(bit(r.bit()))
	return Side{At: at, Edge: r.handle()}
}

// many is how many darts follow: none, if there may not be so many, or the bytes
// are not just as many, so that a number that is wrong takes no memory.
func (r *reader) many(p parts) int {
	n := 0
	switch {
	case p.face:
		n = int(r.take(wide))
	case p.dart:
		n = 1
	default:
		return 0
	}
	if !p.holds(n) || len(r.left) != n*dartWide {
		r.wrong = true
		return 0
	}
	return n
}

func (r *reader) counts() sphere.Counts {
	var l [4]int
	for i := range l {
		l[i] = int(r.take(wide))
	}
	return sphere.Counts{V: l[0], E: l[1], F: l[2], C: l[3]}
}

// data is all that is left, as new memory: nothing, if it is too long.
func (r *reader) data() []byte {
	if len(r.left) > maxData {
		r.wrong = true
		return nil
	}
	l := r.left
	r.left = nil
	return append([]byte(nil), l...)
}
