package web

import "plait/api"

// ends are the items at a tie's ends.
type ends [2]int

// loose are the ends of a tie that is not tied. None that is tied has them: it
// would lead from a face to itself.
func loose() ends { return ends{} }

// between are a tie's ends.
func (w *Web) between(e int) (ends, error) {
	switch {
	case w == nil:
		return loose(), api.ErrArg
	case e < 0 || e >= w.ties:
		return loose(), api.ErrRange
	case e >= len(w.tied):
		return loose(), nil
	}
	return w.tied[e], nil
}

// keep notes a tie's ends.
func (w *Web) keep(e int, is ends) {
	if more := e + 1 - len(w.tied); more > 0 {
		w.tied = append(w.tied, make([]ends, more)...)
	}
	w.tied[e] = is
}

// each does a thing with a tie's node and that of each of its ends.
func (w *Web) each(e int, of ends, do func(a, b int) error) error {
	for _, x := range of {
		if err := do(tieNode(e), itemNode(x)); err != nil {
			return err
		}
	}
	return nil
}

// A bunch of nodes is some items' ones and then a tie's: as many items as there
// may be for each tie. So the first items and the first ties are the first
// nodes, and trees that make room up to the last node in use stay small.
const (
	bunchItems = maxItems / maxTies
	bunch      = bunchItems + 1
)

// itemNode is the node of an item.
func itemNode(x int) int { return x/bunchItems*bunch + x%bunchItems }

// tieNode is the node of a tie.
func tieNode(e int) int { return e*bunch + bunchItems }

// tieOf is the tie of a node; -1: it is an item's.
func tieOf(at int) int {
	if at%bunch != bunchItems {
		return -1
	}
	return at / bunch
}
