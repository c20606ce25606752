// Package wire is layer 1: numbers and frames as bytes: see shared/doc/01-wire.md.
package wire

import "plait/api"

const (
	// widest is how many bytes a number has at most.
	widest = 8
	// head is how many bytes tell a frame's length.
	head = 4
)

// Put lays a number of so many bytes behind others.
func Put(b []byte, v uint64, n int) []byte {
	if !isWidth(n) {
		return copied(b)
	}
	// Made anew: append to b might write into spare room that is the caller's.
	out := make([]byte, 0, len(b)+n)
	out = append(out, b...)
	for i := n - 1; i >= 0; i-- {
		out = append(out, byte(v>>(8*i)))
	}
	return out
}

// Take takes a number of so many bytes off.
func Take(b []byte, n int) (uint64, []byte, error) {
	if !isWidth(n) {
		return 0, nil, api.ErrArg
	}
	if len(b) < n {
		return 0, nil, api.ErrEnd
	}
	return number(b[:n]), copied(b[n:]), nil
}

// Frame is bytes with their length ahead.
func Frame(b []byte) ([]byte, error) {
	if len(b) > api.MaxFrame {
		return nil, api.ErrLong
	}
	out := make([]byte, 0, head+len(b))
	out = append(out, Put(nil, uint64(len(b)), head)...)
	return append(out, b...), nil
}

// Cut is the first frame's bytes, and what is behind it.
func Cut(b []byte) ([]byte, []byte, error) {
	if len(b) < head {
		return nil, nil, api.ErrEnd
	}
	// Held against the limit ahead of what is there: a length that can't be is
	// told even where the bytes end too soon.
	size := number(b[:head])
	if size > api.MaxFrame {
		return nil, nil, api.ErrLong
	}
	if uint64(len(b)-head) < size {
		return nil, nil, api.ErrEnd
	}
	end := head + int(size)
	return copied(b[head:end]), copied(b[end:]), nil
}

// Signed is a number of 32 bits with a sign, of one without.
func Signed(v uint64) int32 { return int32(uint32(v)) }

// isWidth tells whether a number may have so many bytes.
func isWidth(n int) bool { return n >= 1 && n <= widest }

// number is the number of all of these bytes, the highest first.
func number(b []byte) uint64 {
	var v uint64
	for _, x := range b {
		v = v<<8 | uint64(x)
	}
	return v
}

// copied is the same bytes as new memory, so that no answer shares any with an
// argument.
func copied(b []byte) []byte {
	out := make([]byte, len(b))
	copy(out, b)
	return out
}
