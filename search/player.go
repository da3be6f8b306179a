package search

import (
	"slices"

	"padlock/api"
)

// player is one who searches on a map with a mind.
type player struct {
	model
	api.Mind
	at     int
	memory memory
	back   []int // the edges that are left of the way back to the nearest edge that is not remembered
	lost   bool  // there is no such way
	trail  []int
}

// search returns the edges that a player goes within most steps, and whether the last position is finished.
func (m model) search(mind api.Mind, most int) (trail []int, done bool) {
	p := player{model: m, Mind: mind, memory: memory{has: map[link]bool{}}}
	for len(p.trail) < most && !p.stays(p.at) {
		p.walk(p.next())
	}
	return p.trail, p.isFinished(p.at)
}

// walk goes an edge and remembers it.
func (p *player) walk(edge int) {
	l := link{p.at, edge}
	p.memory.add(l, p.Memory)
	p.trail = append(p.trail, edge)
	p.at = p.behind(l)
}

// next returns the edge that is to be gone from a position that is left.
func (p *player) next() int {
	if edge, is := p.untried(p.at); is {
		return edge
	}
	// As long as only edges are gone that are remembered, no edge is added and none forgotten. So the way back stays the one to go up to its end, and if there is none, there will never be one.
	if len(p.back) == 0 && !p.lost {
		p.back = p.wayBack()
		p.lost = len(p.back) == 0
	}
	if p.lost {
		return p.memory.first(p.at)
	}
	edge := p.back[0]
	p.back = p.back[1:]
	return edge
}

// untried returns the edge of a position that is tried first of those that are not remembered, if there is one.
func (p *player) untried(position int) (edge int, is bool) {
	n := len(p.Edges[position])
	for i := range n {
		edge := (p.Turn + i) % n
		if !p.memory.has[link{position, edge}] {
			return edge, true
		}
	}
	return 0, false
}

// wayBack returns the edges of the shortest way, along remembered ones, to the nearest position that has an edge which is not remembered; none if there is no way.
func (p *player) wayBack() []int {
	w := waysFrom(p.at)
	isKnown := func(position int) bool { _, is := p.untried(position); return !is }
	for level := []int{p.at}; len(level) > 0; {
		// All edges of these positions are remembered, for none of them ends the way.
		level = w.spread(p.model, level)
		if ends := slices.DeleteFunc(slices.Clone(level), isKnown); len(ends) > 0 {
			return w.edges(p.at, slices.Min(ends))
		}
	}
	return nil
}
