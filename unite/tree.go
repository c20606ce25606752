package unite

// member is what is kept of one. A group is a tree: each member but the top has
// another one above it. The roads up to the top are not made shorter when they
// are gone, since what a Join changes must be little, to be undone.
type member struct {
	// above is the member itself, at the top.
	above int32
	// Of the group whose top the member is, or was when it was hung on another:
	// so it has it again, when that is undone.
	size, least int32
}

// join is what is kept of one, to undo it.
type join struct {
	// under is the top that was hung on another one.
	under int32
	// least is the other one's, as it was ahead of that.
	least int32
}

// alone is a member in a group of its own.
func alone(x int) member {
	return member{above: int32(x), size: 1, least: int32(x)}
}

// at is what is kept of a member.
func (g *Groups) at(x int) member {
	if x < len(g.members) {
		return g.members[x]
	}
	return alone(x)
}

// top is the top of a member's group. It tells by its above which one it is.
func (g *Groups) top(x int) member {
	m := g.at(x)
	for int(m.above) != x {
		x = int(m.above)
		m = g.at(x)
	}
	return m
}

// hang hangs a group's top on another group's one.
func (g *Groups) hang(over, under member) {
	g.reach(int(max(over.above, under.above)))
	g.joins = append(g.joins, join{under: under.above, least: over.least})
	g.members[under.above].above = over.above
	g.members[over.above].size += under.size
	g.members[over.above].least = min(over.least, under.least)
}

// undo takes back the last join: what was hung on has not been hung itself
// since then, so that both are tops again.
func (g *Groups) undo() {
	end := len(g.joins) - 1
	last := g.joins[end]
	g.joins = g.joins[:end]
	under := &g.members[last.under]
	over := &g.members[under.above]
	over.size -= under.size
	over.least = last.least
	under.above = last.under
}

// reach makes members up to one.
func (g *Groups) reach(x int) {
	for len(g.members) <= x {
		g.members = append(g.members, alone(len(g.members)))
	}
}
