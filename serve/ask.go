package serve

import (
	"plait/answer"
	"plait/api"
	"plait/core"
)

// askEdge answers what is asked of the command's edge.
func (j job) askEdge(is func(*core.Map, int) (bool, error)) (answer.Answer, error) {
	yes, err := is(j.state.Map, j.at[0])
	return answer.Answer{Is: yes}, err
}

// askBoth answers what is asked of two vertices, or of two darts.
func (j job) askBoth(are func(*core.Map, int, int) (bool, error), two [2]int) (answer.Answer, error) {
	yes, err := are(j.state.Map, two[0], two[1])
	return answer.Answer{Is: yes}, err
}

// faceLen is how many darts the face of the command's dart has.
func (j job) faceLen() (answer.Answer, error) {
	n, err := j.state.Map.FaceLen(j.dart(0))
	return answer.Answer{N: n}, err
}

// face are the darts of that face.
func (j job) face() (answer.Answer, error) {
	list, err := j.state.Map.Face(j.dart(0))
	if err != nil {
		return answer.Answer{}, err
	}
	return j.darts(list...)
}

// next is the dart behind the command's one.
func (j job) next() (answer.Answer, error) {
	d, err := j.state.Map.Next(j.dart(0))
	if err != nil {
		return answer.Answer{}, err
	}
	return j.darts(d)
}

// ends are the vertices of the two darts of the command's edge.
func (j job) ends() (answer.Answer, error) {
	out := make([]api.Handle, 2)
	for side := range out {
		v, err := j.state.Map.Origin(dartOf(j.at[0], side))
		if err != nil {
			return answer.Answer{}, err
		}
		out[side], err = j.state.Vertices.Handle(v)
		if err != nil {
			return answer.Answer{}, err
		}
	}
	return answer.Answer{Handles: out}, nil
}

// dump is the state as bytes.
func (j job) dump() (answer.Answer, error) {
	b, err := j.state.Dump()
	return answer.Answer{Data: b}, err
}

// dart is one of the command's two.
func (j job) dart(i int) int { return dartOf(j.at[i], j.c.Sides[i]) }

// darts tell darts by their edges' handles.
func (j job) darts(list ...int) (answer.Answer, error) {
	out := make([]answer.Side, len(list))
	for i, d := range list {
		e, err := j.state.Edges.Handle(d / 2)
		if err != nil {
			return answer.Answer{}, err
		}
		out[i] = answer.Side{Edge: e, At: d % 2}
	}
	return answer.Answer{Darts: out}, nil
}

// dartOf is an edge's first or second dart.
func dartOf(e, side int) int { return 2*e + side }

// one is the answer of a single handle.
func one(h api.Handle) answer.Answer { return answer.Answer{Handles: []api.Handle{h}} }
