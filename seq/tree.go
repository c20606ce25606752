package seq

import "math"

// none is the number of no node; what stands there is nothing.
const none int32 = 0

// nothing stands in for a node where there is none: its tallies, taken in with
// others, change nothing.
func nothing() node {
	return node{rest: -1, low: math.MaxInt64, high: math.MinInt64}
}

// side is where to look from a node on.
type side int

// Sides.
const (
	ahead side = iota
	behind
	here
)

// node is an item in the tree of its sequence: what is beneath it on one side
// stands ahead of it, what is beneath it on the other one behind. Nodes that
// are asked for are brought to the top, so that whatever comes, each call needs,
// taken together, a few steps for each doubling of the items. An item that is
// alone, its value 0, is a node of noughts, so that to make many takes no steps.
type node struct {
	value int64
	// Of all that is at the node and beneath it:
	sum, low, high int64
	// rest is how many are beneath the node.
	rest    int32
	above   int32
	beneath [2]int32
	// turned says that all beneath is still to be turned round: to do it at
	// once would take as many steps as there are items.
	turned bool
}

// reach makes nodes up to an item's one. It doubles their number at least, lest
// items that come one by one be copied over and over.
func (f *Forest) reach(x int) {
	have, need := len(f.nodes), x+2
	if need <= have {
		return
	}
	grown := make([]node, min(max(need, 2*have), f.n+1))
	copy(grown, f.nodes)
	f.nodes = grown
}

// size is how many are at a node and beneath it.
func (f *Forest) size(at int32) int { return int(f.nodes[at].rest) + 1 }

// leads is how many of those beneath a node stand ahead of it; the node is
// settled.
func (f *Forest) leads(at int32) int { return f.size(f.nodes[at].beneath[ahead]) }

// tally tells anew what a node and all beneath it come to.
func (f *Forest) tally(at int32) {
	n := &f.nodes[at]
	a, b := &f.nodes[n.beneath[ahead]], &f.nodes[n.beneath[behind]]
	n.rest = a.rest + 1 + b.rest + 1
	n.sum = a.sum + n.value + b.sum
	n.low = min(a.low, n.value, b.low)
	n.high = max(a.high, n.value, b.high)
}

// turn turns round what is at a node and beneath it.
func (f *Forest) turn(at int32) {
	if at != none {
		f.nodes[at].turned = !f.nodes[at].turned
	}
}

// settle does at a node what turned asks for, and leaves the rest to those
// beneath.
func (f *Forest) settle(at int32) {
	n := &f.nodes[at]
	if !n.turned {
		return
	}
	n.turned = false
	n.beneath[ahead], n.beneath[behind] = n.beneath[behind], n.beneath[ahead]
	f.turn(n.beneath[ahead])
	f.turn(n.beneath[behind])
}

// hang puts a tree, or none, beneath a node, on a side on which it has nothing,
// or what is hung elsewhere then.
func (f *Forest) hang(at int32, s side, kid int32) {
	f.nodes[at].beneath[s] = kid
	if kid != none {
		f.nodes[kid].above = at
	}
	f.tally(at)
}

// shed makes what is beneath a top node on one side a tree of its own; whether
// there is anything.
func (f *Forest) shed(top int32, s side) bool {
	kid := f.nodes[top].beneath[s]
	if kid == none {
		return false
	}
	f.nodes[kid].above = none
	f.hang(top, s, none)
	return true
}

// where is on which side of the one above it a node is.
func (f *Forest) where(at int32) side {
	if f.nodes[f.nodes[at].above].beneath[behind] == at {
		return behind
	}
	return ahead
}

// lift changes the places of a node and the one above it, the order being kept;
// both are settled.
func (f *Forest) lift(at int32) {
	parent, s := f.nodes[at].above, f.where(at)
	grand, t := f.nodes[parent].above, f.where(parent)
	f.hang(parent, s, f.nodes[at].beneath[1-s])
	f.hang(at, 1-s, parent)
	f.nodes[at].above = grand
	if grand != none {
		f.nodes[grand].beneath[t] = at
	}
}

// raise brings a node to the top of its tree, and settles it. What is still to
// be turned further up would turn both sides of a step alike, and so needs not
// be done ahead of it.
func (f *Forest) raise(at int32) {
	for f.nodes[at].above != none {
		parent := f.nodes[at].above
		grand := f.nodes[parent].above
		f.settle(grand)
		f.settle(parent)
		f.settle(at)
		// Of a straight way the upper step comes first: this is what makes
		// long ways shorter.
		if grand != none && f.where(parent) == f.where(at) {
			f.lift(parent)
		} else if grand != none {
			f.lift(at)
		}
		f.lift(at)
	}
	f.settle(at)
}

// descend is the node at which a way ends that leads from one on down: which
// tells of each node on it, settled, on which side it goes on.
func (f *Forest) descend(at int32, which func(at int32) side) int32 {
	for {
		f.settle(at)
		s := which(at)
		if s == here || f.nodes[at].beneath[s] == none {
			return at
		}
		at = f.nodes[at].beneath[s]
	}
}

// seek is descend, with the node that is found brought to the top.
func (f *Forest) seek(at int32, which func(at int32) side) int32 {
	found := f.descend(at, which)
	f.raise(found)
	return found
}

// toward leads to one end.
func toward(s side) func(at int32) side {
	return func(int32) side { return s }
}

// next is the node behind one; it and all above it are settled.
func (f *Forest) next(at int32) int32 {
	if kid := f.nodes[at].beneath[behind]; kid != none {
		return f.descend(kid, toward(ahead))
	}
	for f.nodes[at].above != none && f.where(at) == behind {
		at = f.nodes[at].above
	}
	return f.nodes[at].above
}
