package search

import (
	"slices"

	"padlock/api"
	"padlock/rules"
)

// maxEdges is how many edges a position can have.
const maxEdges = 100

// dead is the distance of a position from which no finished one can be reached.
const dead = -1

// model is a map: which edges lead from which positions to which, and the distances of the positions. What the positions are does not count.
type model struct {
	api.Graph
	distances []int
}

// link is an edge with the position it belongs to.
type link struct {
	position, edge int
}

// check returns ErrModel unless the map is valid. All other methods expect that it is.
func (m model) check() api.Errno {
	return rules.Unless(m.isWhole() && m.hasDistances(), api.ErrModel)
}

// isWhole reports whether there is a list of edges and a distance for each position, and all edges lead to positions.
func (m model) isWhole() bool {
	n := len(m.Positions)
	leadsAway := func(e api.Edge) bool { return !rules.IsOf(m.Positions, e.To) }
	isWrong := func(edges []api.Edge) bool { return len(edges) > maxEdges || slices.ContainsFunc(edges, leadsAway) }
	return rules.Within(n, 1, api.MaxModel) && len(m.Edges) == n && len(m.distances) == n && !slices.ContainsFunc(m.Edges, isWrong)
}

// hasDistances reports whether each distance fits those of the positions to which the edges lead.
func (m model) hasDistances() bool {
	// A shortest way comes to no position twice. Without this bound a number could overflow below.
	if !rules.AllWithin(m.distances, dead, len(m.Positions)-1) {
		return false
	}
	for i, d := range m.distances {
		if d != 0 && d != m.distanceByEdges(i) {
			return false
		}
	}
	return true
}

// distanceByEdges returns the distance that a position has if it is not finished.
func (m model) distanceByEdges(position int) int {
	least := dead
	for _, e := range m.Edges[position] {
		if d := m.distances[e.To]; d != dead && (least == dead || d < least) {
			least = d
		}
	}
	if least == dead {
		return dead
	}
	return least + 1
}

// isFinished reports whether the way ends at a position.
func (m model) isFinished(position int) bool { return m.distances[position] == 0 }

// leadsNearer reports whether a link leads to a position whose distance is 1 less.
func (m model) leadsNearer(l link) bool {
	d := m.distances[l.position]
	// From a finished position nothing leads nearer, although -1 is 1 less than 0.
	return d > 0 && m.distances[m.behind(l)] == d-1
}

// behind returns the position to which a link leads.
func (m model) behind(l link) int { return m.Edges[l.position][l.edge].To }

// wrong returns for each position how many edges do not lead nearer.
func (m model) wrong() []int {
	list := make([]int, len(m.Edges))
	for i, edges := range m.Edges {
		for j := range edges {
			if !m.leadsNearer(link{i, j}) {
				list[i]++
			}
		}
	}
	return list
}

// widths returns for each distance up to the greatest one how many positions have it.
func (m model) widths() []int {
	list := make([]int, slices.Max(m.distances)+1)
	for _, d := range m.distances {
		if d != dead {
			list[d]++
		}
	}
	return list
}

// choices returns how many edges the positions on the first shortest way to a finished one have; none if there is no way.
func (m model) choices() []int {
	var list []int
	for at := 0; m.distances[at] > 0; {
		list = append(list, len(m.Edges[at]))
		at = m.nearer(at)
	}
	return list
}

// nearer returns the position to which the first edge leads that leads nearer; there has to be one.
func (m model) nearer(from int) int {
	edge := 0
	for !m.leadsNearer(link{from, edge}) {
		edge++
	}
	return m.behind(link{from, edge})
}
