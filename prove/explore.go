package prove

import (
	"slices"

	"padlock/api"
	"padlock/play"
)

// explorer goes through the positions of a valid game. Its graph has all of them as soon as each has its edges.
type explorer struct {
	api.Graph
	guide
	numbers  map[string]int // of the positions, by their keys
	finished []bool
}

// explore returns the error that all functions with a game return first, if there is one.
func explore(g api.Game) (*explorer, api.Errno) {
	first, e := play.Begin(g)
	if e != api.OK {
		return nil, e
	}
	x := &explorer{guide: newGuide(g), numbers: map[string]int{}}
	x.number(first)
	// The edges of a position bring others, which come in behind those that have a number.
	for at := 0; at < len(x.Positions); at++ {
		x.Edges = append(x.Edges, x.edges(x.Positions[at]))
		if len(x.Positions) > api.MaxPositions {
			return nil, api.ErrMany
		}
	}
	return x, api.OK
}

// number returns the number of a position, which is the next one if it has none yet.
func (x *explorer) number(p api.Position) int {
	k := key(p)
	n, known := x.numbers[k]
	if !known {
		n = len(x.Positions)
		x.numbers[k] = n
		x.Positions = append(x.Positions, p)
		x.finished = append(x.finished, isFinished(x.game, p))
	}
	return n
}

// edges gives numbers to the positions to which a position leads.
func (x *explorer) edges(from api.Position) []api.Edge {
	var list []api.Edge
	// There is no error to expect: the game and the position are valid.
	steps, _ := x.steps(from)
	for _, s := range steps {
		list = append(list, api.Edge{Move: s.move, To: x.number(s.behind)})
	}
	return list
}

// happens reports whether there is an edge that counts.
func (x *explorer) happens(counts func(api.Edge) bool) bool {
	return slices.ContainsFunc(x.Edges, func(edges []api.Edge) bool { return slices.ContainsFunc(edges, counts) })
}
