package prove

import (
	"slices"

	"padlock/api"
	"padlock/rules"
)

// certificate is what should prove that a game can be finished from everywhere: its graph, and the distances of the positions. Nothing of it need be right.
type certificate struct {
	api.Graph
	guide
	distances []int
}

// isRight expects the first position of the game.
func (c certificate) isRight(first api.Position) bool {
	n := len(c.Positions)
	if !rules.Within(n, 1, api.MaxPositions) || len(c.Edges) != n || len(c.distances) != n || !same(c.Positions[0], first) {
		return false
	}
	for i := range n {
		if !c.leadsRightly(i) || !c.hasDistance(i) {
			return false
		}
	}
	return true
}

// leadsRightly reports whether a position is valid, has an edge for each possible move and no more, and each edge leads where its move does.
func (c certificate) leadsRightly(position int) bool {
	steps, e := c.steps(c.Positions[position])
	return e == api.OK && slices.EqualFunc(c.Edges[position], steps, func(x api.Edge, s step) bool {
		return x.Move == s.move && rules.IsOf(c.Positions, x.To) && same(c.Positions[x.To], s.behind)
	})
}

// hasDistance reports whether the distance of a valid position is right; its edges have to lead to positions that there are.
func (c certificate) hasDistance(position int) bool {
	d := c.distances[position]
	if isFinished(c.game, c.Positions[position]) {
		return d == 0
	}
	return rules.Within(d, 1, api.MaxPositions) && slices.ContainsFunc(c.Edges[position], func(x api.Edge) bool { return c.distances[x.To] == d-1 })
}
