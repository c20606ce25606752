package cut

import (
	"iter"
	"math"
)

// none is the number of no spot; what stands there is nothing.
const none int32 = 0

// nothing stands in for a spot where there is none: its tallies, taken in with
// others, change nothing.
func nothing() spot {
	return spot{rest: -1, low: math.MaxInt64, high: math.MinInt64}
}

// side is where to look from a spot on.
type side int

// Sides.
const (
	ahead side = iota
	behind
	here
)

// spot is what is kept of a node. A tree hangs down from one of its nodes, the
// root, and is laid out in stretches: roads that each lead straight down. The
// nodes of a stretch are a search tree: what is beneath a spot on one side
// stands ahead of it on the road, so nearer to the root, what is beneath it on
// the other one behind. Above a stretch's top is the node on which its first one
// hangs, which has it not beneath it.
//
// Nodes that are asked for are brought to the top of all, their road up to the
// root being made one stretch, so that whatever comes, each call needs, taken
// together, a few steps for each doubling of the nodes. A node that is alone,
// its value 0, is a spot of noughts, so that to make many takes no steps.
type spot struct {
	value int64
	// Of all that is at the spot and beneath it:
	sum, low, high int64
	// rest is how many are beneath the spot.
	rest    int32
	above   int32
	beneath [2]int32
	// turned says that all beneath is still to be turned round: to do it at
	// once would take as many steps as there are nodes.
	turned bool
}

// reach makes spots up to a node's one. It doubles their number at least, lest
// nodes that come one by one be copied over and over.
func (f *Forest) reach(x int) {
	have, need := len(f.spots), x+2
	if need <= have {
		return
	}
	grown := make([]spot, min(max(need, 2*have), f.n+1))
	copy(grown, f.spots)
	f.spots = grown
}

// size is how many are at a spot and beneath it.
func (f *Forest) size(at int32) int { return int(f.spots[at].rest) + 1 }

// tally tells anew what a spot and all beneath it come to.
func (f *Forest) tally(at int32) {
	s := &f.spots[at]
	a, b := &f.spots[s.beneath[ahead]], &f.spots[s.beneath[behind]]
	s.rest = a.rest + 1 + b.rest + 1
	s.sum = a.sum + s.value + b.sum
	s.low = min(a.low, s.value, b.low)
	s.high = max(a.high, s.value, b.high)
}

// turn turns round what is at a spot and beneath it.
func (f *Forest) turn(at int32) {
	if at != none {
		f.spots[at].turned = !f.spots[at].turned
	}
}

// settle does at a spot what turned asks for, and leaves the rest to those
// beneath.
func (f *Forest) settle(at int32) {
	s := &f.spots[at]
	if !s.turned {
		return
	}
	s.turned = false
	s.beneath[ahead], s.beneath[behind] = s.beneath[behind], s.beneath[ahead]
	f.turn(s.beneath[ahead])
	f.turn(s.beneath[behind])
}

// hang puts a search tree, or none, beneath a spot. What was there till then
// is a stretch of its own that still hangs on the spot's node, unless it is hung
// elsewhere.
func (f *Forest) hang(at int32, s side, kid int32) {
	f.spots[at].beneath[s] = kid
	if kid != none {
		f.spots[kid].above = at
	}
	f.tally(at)
}

// shed makes what is beneath a top on one side, where there is something, a
// stretch that hangs on nothing.
func (f *Forest) shed(top int32, s side) {
	f.spots[f.spots[top].beneath[s]].above = none
	f.hang(top, s, none)
}

// where is on which side of the one above it a spot is: here, if it is the top
// of its stretch.
func (f *Forest) where(at int32) side {
	switch up := &f.spots[f.spots[at].above]; at {
	case up.beneath[ahead]:
		return ahead
	case up.beneath[behind]:
		return behind
	}
	return here
}

// lift changes the places of a spot and the one above it, the order being kept;
// both are of one stretch, and settled.
func (f *Forest) lift(at int32) {
	parent, s := f.spots[at].above, f.where(at)
	grand, t := f.spots[parent].above, f.where(parent)
	f.hang(parent, s, f.spots[at].beneath[1-s])
	f.hang(at, 1-s, parent)
	f.spots[at].above = grand
	if t != here {
		f.spots[grand].beneath[t] = at
	}
}

// raise brings a spot to the top of its stretch, and settles it. What is still
// to be turned further up would turn both sides of a step alike, and so needs
// not be done ahead of it.
func (f *Forest) raise(at int32) {
	for f.where(at) != here {
		parent := f.spots[at].above
		f.settle(f.spots[parent].above)
		f.settle(parent)
		f.settle(at)
		// Of a straight way the upper step comes first: this is what makes
		// long ways shorter.
		switch f.where(parent) {
		case here:
		case f.where(at):
			f.lift(parent)
		default:
			f.lift(at)
		}
		f.lift(at)
	}
	f.settle(at)
}

// expose makes the road from the root to a node one stretch, with the node as
// its top; what hangs on the node is in other ones then.
func (f *Forest) expose(at int32) {
	for below, up := none, at; up != none; below, up = up, f.spots[up].above {
		f.raise(up)
		f.hang(up, behind, below)
	}
	f.raise(at)
}

// root makes a node the root of its tree, and the top of all.
func (f *Forest) root(at int32) {
	f.expose(at)
	f.turn(at)
}

// descend is the spot at which a way ends that leads from one on down: which
// tells of each spot on it, settled, on which side it goes on.
func (f *Forest) descend(at int32, which func(at int32) side) int32 {
	for {
		f.settle(at)
		s := which(at)
		if s == here || f.spots[at].beneath[s] == none {
			return at
		}
		at = f.spots[at].beneath[s]
	}
}

// seek is descend, with the spot that is found brought to the top.
func (f *Forest) seek(at int32, which func(at int32) side) int32 {
	found := f.descend(at, which)
	f.raise(found)
	return found
}

// last is the last spot of all that is at one and beneath it.
func (f *Forest) last(at int32) int32 {
	return f.descend(at, func(int32) side { return behind })
}

// prior is the spot ahead of one in a stretch that hangs on nothing; it and all
// above it are settled.
func (f *Forest) prior(at int32) int32 {
	if kid := f.spots[at].beneath[ahead]; kid != none {
		return f.last(kid)
	}
	for f.where(at) == ahead {
		at = f.spots[at].above
	}
	return f.spots[at].above
}

// backwards goes over a stretch that hangs on nothing, from its last spot to its
// first one.
func (f *Forest) backwards(top int32) iter.Seq[int32] {
	return func(yield func(int32) bool) {
		for at := f.last(top); at != none && yield(at); {
			at = f.prior(at)
		}
	}
}
