package serve

import (
	"plait/answer"
	"plait/api"
	"plait/turn"
)

// addVertex gives the lowest free place, and lays its vertex.
func (j job) addVertex() (answer.Answer, error) {
	h, err := j.state.Vertices.Add()
	if err != nil {
		return answer.Answer{}, err
	}
	return one(h), j.state.Map.AddVertex(int(h.At))
}

// dropVertex takes a vertex away, and then its place back.
func (j job) dropVertex() (answer.Answer, error) {
	if err := j.state.Map.DropVertex(j.at[0]); err != nil {
		return answer.Answer{}, err
	}
	return answer.Answer{}, j.state.Vertices.Drop(j.c.Handles[0])
}

// insert lays an edge between two corners. Its place is given last of all, so that
// none is lost where it can't be laid.
func (j job) insert() (answer.Answer, error) {
	corners, err := j.corners()
	if err != nil {
		return answer.Answer{}, err
	}
	legal, err := j.state.Map.Legal(corners[0], corners[1])
	if err != nil {
		return answer.Answer{}, err
	}
	if !legal {
		return answer.Answer{}, api.ErrGenus
	}
	h, err := j.state.Edges.Add()
	if err != nil {
		return answer.Answer{}, err
	}
	return one(h), j.state.Map.Join(int(h.At), corners[0], corners[1], j.c.W)
}

// remove takes an edge away, and then its place back.
func (j job) remove() (answer.Answer, error) {
	if err := j.state.Map.Part(j.at[0]); err != nil {
		return answer.Answer{}, err
	}
	return answer.Answer{}, j.state.Edges.Drop(j.c.Handles[0])
}

// corners are those of the command; an error, if one is none any more.
func (j job) corners() ([2]turn.Corner, error) {
	var out [2]turn.Corner
	for i := range out {
		c, err := j.corner(i)
		if err != nil {
			return [2]turn.Corner{}, err
		}
		out[i] = c
	}
	return out, nil
}

// corner is one of the command's two.
func (j job) corner(i int) (turn.Corner, error) {
	if side := j.c.Sides[i]; side != bare {
		d := dartOf(j.at[i], side-1)
		v, err := j.state.Map.Origin(d)
		return turn.Corner{Vertex: v, Behind: d}, err
	}
	c := turn.Corner{Vertex: j.at[i], Behind: turn.None}
	// The vertex is laid: there is no such corner just if it has darts.
	if j.state.Map.Check(c) != nil {
		return turn.Corner{}, api.ErrBusy
	}
	return c, nil
}
