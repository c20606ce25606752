package serve

import (
	"plait/answer"
	"plait/api"
	"plait/cmd"
	"plait/core"
	"plait/load"
)

// handles is how many handles a command has, by its code.
var handles = [cmd.Codes]int{
	cmd.DropVertex: 1,
	cmd.Insert:     2,
	cmd.Delete:     1,
	cmd.Weigh:      1,
	cmd.Connected:  2,
	cmd.SameFace:   2,
	cmd.Bridge:     1,
	cmd.FaceLen:    1,
	cmd.Face:       1,
	cmd.Marked:     1,
	cmd.Ends:       1,
	cmd.Next:       1,
}

// bare is the side of a corner whose vertex has no darts; above it are those behind
// an edge's darts.
const bare = 0

// job is a command whose handles are found: in a state, at these places.
type job struct {
	c     cmd.Command
	state *load.State
	at    [2]int
}

// find finds a command's handles, or why one is none.
func find(state *load.State, c cmd.Command) (job, error) {
	j := job{c: c, state: state}
	for i := range handles[c.Code] {
		at, err := j.place(i)
		if err != nil {
			return job{}, err
		}
		j.at[i] = at
	}
	return j, nil
}

// place is where the vertex, or the edge, of a handle is.
func (j job) place(i int) (int, error) {
	if j.isVertex(i) {
		return j.state.Vertices.Find(j.c.Handles[i])
	}
	return j.state.Edges.Find(j.c.Handles[i])
}

// isVertex tells whether a handle is a vertex's; else it is an edge's.
func (j job) isVertex(i int) bool {
	switch j.c.Code {
	case cmd.DropVertex, cmd.Connected:
		return true
	case cmd.Insert:
		return j.c.Sides[i] == bare
	}
	return false
}

// do does the command.
func (j job) do() (answer.Answer, error) {
	switch j.c.Code {
	case cmd.AddVertex:
		return j.addVertex()
	case cmd.DropVertex:
		return j.dropVertex()
	case cmd.Insert:
		return j.insert()
	case cmd.Delete:
		return j.remove()
	case cmd.Weigh:
		return answer.Answer{}, j.state.Map.Weigh(j.at[0], j.c.W)
	case cmd.Connected:
		return j.askBoth((*core.Map).Connected, j.at)
	case cmd.SameFace:
		return j.askBoth((*core.Map).SameFace, [2]int{j.dart(0), j.dart(1)})
	case cmd.Bridge:
		return j.askEdge((*core.Map).Bridge)
	case cmd.Marked:
		return j.askEdge((*core.Map).Marked)
	case cmd.FaceLen:
		return j.faceLen()
	case cmd.Face:
		return j.face()
	case cmd.Next:
		return j.next()
	case cmd.Ends:
		return j.ends()
	case cmd.Counts:
		return answer.Answer{Counts: j.state.Map.Counts()}, nil
	case cmd.Sum:
		return answer.Answer{Sum: j.state.Map.Sum()}, nil
	case cmd.Dump:
		return j.dump()
	}
	return answer.Answer{}, api.ErrCode
}
