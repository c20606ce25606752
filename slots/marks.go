package slots

import "math/bits"

const (
	// wordBits is how many marks stand in one word, and wordShift and wordMask
	// part a place into its word and its mark there.
	wordBits  = 64
	wordShift = 6
	wordMask  = wordBits - 1
)

// marks are marked places below size. The lowest level has one mark for each
// place; a mark of a level above tells that the word beneath it has any. So the
// next marked place is found in one step for each level.
type marks struct {
	size   int
	levels [][]uint64
}

// newMarks has that many places, none marked.
func newMarks(size int) marks {
	m := marks{size: size}
	for n := size; ; {
		n = (n + wordMask) >> wordShift
		m.levels = append(m.levels, make([]uint64, n))
		if n <= 1 {
			return m
		}
	}
}

// fill marks all places.
func (m *marks) fill() {
	n := m.size
	for _, words := range m.levels {
		for i := range n >> wordShift {
			words[i] = ^uint64(0)
		}
		// The last word's marks behind the last place stay off: there is
		// nothing to be found.
		if rest := n & wordMask; rest != 0 {
			words[n>>wordShift] = 1<<rest - 1
		}
		n = len(words)
	}
}

// covers tells whether there is such a place.
func (m *marks) covers(at int) bool { return at >= 0 && at < m.size }

// has tells whether a place is marked; none that is not there is.
func (m *marks) has(at int) bool {
	return m.covers(at) && m.levels[0][at>>wordShift]>>(at&wordMask)&1 == 1
}

// set marks a place that is there.
func (m *marks) set(at int) {
	for _, words := range m.levels {
		words[at>>wordShift] |= 1 << (at & wordMask)
		at >>= wordShift
	}
}

// unset takes the mark off a place that is there.
func (m *marks) unset(at int) {
	for _, words := range m.levels {
		words[at>>wordShift] &^= 1 << (at & wordMask)
		if words[at>>wordShift] != 0 {
			return
		}
		at >>= wordShift
	}
}

// next is the lowest marked place that is not below from.
func (m *marks) next(from int) (int, bool) {
	at := max(from, 0)
	for k, words := range m.levels {
		if at>>wordShift >= len(words) {
			return 0, false
		}
		if w := words[at>>wordShift] >> (at & wordMask); w != 0 {
			return m.lowest(k, at+bits.TrailingZeros64(w)), true
		}
		at = at>>wordShift + 1
	}
	return 0, false
}

// lowest is the lowest marked place beneath a mark of level k.
func (m *marks) lowest(k, at int) int {
	for k > 0 {
		k--
		at = at<<wordShift + bits.TrailingZeros64(m.levels[k][at])
	}
	return at
}
