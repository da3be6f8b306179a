package search

import "padlock/api"

// chance returns the probability that a player who goes each edge with the same probability is finished behind so many moves.
func (m model) chance(moves int) (num, den int, e api.Errno) {
	parts := m.parts()
	den, e = power(parts, moves)
	if e != api.OK {
		return 0, 0, e
	}
	// Behind so many moves all weights are together the number of parts to their power.
	weights := make([]int, len(m.Edges))
	weights[0] = 1
	for range moves {
		weights = m.move(weights, parts)
	}
	for i, w := range weights {
		if m.isFinished(i) {
			num += w
		}
	}
	num, den = lowest(num, den)
	return num, den, api.OK
}

// stays reports whether a position is never left.
func (m model) stays(position int) bool {
	return m.isFinished(position) || len(m.Edges[position]) == 0
}

// parts returns the least number that can be divided by the numbers of edges of all positions that are left; if it is more than MaxDen, another number that is.
func (m model) parts() int {
	n := 1
	for i, edges := range m.Edges {
		if !m.stays(i) && n <= api.MaxDen {
			n *= len(edges) / gcd(n, len(edges))
		}
	}
	return n
}

// move returns the weights of the positions behind a move, so many times as great.
func (m model) move(weights []int, parts int) []int {
	next := make([]int, len(weights))
	for i, w := range weights {
		if m.stays(i) {
			next[i] += w * parts
			continue
		}
		for _, e := range m.Edges[i] {
			next[e.To] += w * (parts / len(m.Edges[i]))
		}
	}
	return next
}

// power returns the power of a number from 1 on; ErrMany if it is more than MaxDen.
func power(n, to int) (int, api.Errno) {
	p := 1
	for range to {
		if n > api.MaxDen/p {
			return 0, api.ErrMany
		}
		p *= n
	}
	return p, api.OK
}
