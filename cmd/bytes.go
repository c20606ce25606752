package cmd

import (
	"plait/api"
	"plait/wire"
)

const (
	// codeWide, sideWide and wide are how many bytes a code, a side, and each other
	// number has; handleWide is how many a handle has, without its side.
	codeWide   = 1
	sideWide   = 1
	wide       = 4
	handleWide = 2 * wide
)

// put lays a number behind bytes that are this package's own.
func put(b []byte, v uint32, n int) []byte {
	// wire.Put copies what it lays a number behind: all of b, each time.
	return append(b, wire.Put(nil, uint64(v), n)...)
}

// reader takes numbers off bytes, from the first one on: there have to be enough.
type reader struct {
	left []byte
}

func (r *reader) take(n int) uint32 {
	// wire.Take copies what stands behind the number: it is given no more than
	// that has.
	v, _, _ := wire.Take(r.left[:n], n)
	r.left = r.left[n:]
	return uint32(v)
}

func (r *reader) handle() api.Handle {
	age := r.take(wide)
	return api.Handle{Age: age, At: r.take(wide)}
}

func (r *reader) signed() int32 { return wire.Signed(uint64(r.take(wide))) }

// rest is all that is left, as new memory.
func (r *reader) rest() []byte { return append([]byte(nil), r.left...) }
