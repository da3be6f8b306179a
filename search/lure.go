package search

import "padlock/api"

// lure returns the temptation that leads farthest from finished positions, and of several the first one.
func (m model) lure() (worst link, found bool) {
	reached := m.reached()
	greatest := 0
	for i, edges := range m.Edges {
		if _, is := reached[i]; !is || m.distances[i] <= 0 {
			continue
		}
		for j, e := range edges {
			if far := m.far(e.To); far > m.distances[i] && far > greatest {
				worst, greatest, found = link{i, j}, far, true
			}
		}
	}
	return worst, found
}

// far returns the distance of a position, where that of a dead one is greater than all others.
func (m model) far(position int) int {
	if m.distances[position] == dead {
		return api.MaxModel
	}
	return m.distances[position]
}

// reached returns the ways to all positions that can be reached.
func (m model) reached() ways {
	w := waysFrom(0)
	for level := []int{0}; len(level) > 0; {
		level = w.spread(m, level)
	}
	return w
}
