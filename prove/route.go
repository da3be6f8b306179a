package prove

import (
	"slices"

	"padlock/api"
)

// route is how the positions of a graph lead to some of them, the ends, if only some edges count.
type route struct {
	*explorer
	counts    func(api.Edge) bool
	distances []int // of the positions from the nearest end; -1 if they lead to none
	order     []int // the positions that lead to an end, the nearest first
}

// routeTo returns the route to the positions that are ends.
func (x *explorer) routeTo(isEnd func(position int) bool, counts func(api.Edge) bool) route {
	r := route{explorer: x, counts: counts, distances: slices.Repeat([]int{-1}, len(x.Positions))}
	for i := range x.Positions {
		if isEnd(i) {
			r.reach(i, 0)
		}
	}
	back := x.back(counts)
	for i := 0; i < len(r.order); i++ {
		for _, from := range back[r.order[i]] {
			r.reach(from, r.distances[r.order[i]]+1)
		}
	}
	return r
}

// solution returns the route to finished positions.
func (x *explorer) solution(counts func(api.Edge) bool) route {
	return x.routeTo(func(position int) bool { return x.finished[position] }, counts)
}

// ruin returns the route to dead positions.
func (x *explorer) ruin() route {
	s := x.solution(all)
	return x.routeTo(func(position int) bool { return s.distances[position] < 0 }, all)
}

// back returns for each position those from which an edge that counts leads to it.
func (x *explorer) back(counts func(api.Edge) bool) [][]int {
	list := make([][]int, len(x.Positions))
	for from, edges := range x.Edges {
		for _, e := range edges {
			if counts(e) {
				list[e.To] = append(list[e.To], from)
			}
		}
	}
	return list
}

// reach notes the distance of a position, unless it has one, which is not greater.
func (r *route) reach(position, distance int) {
	if r.distances[position] < 0 {
		r.distances[position] = distance
		r.order = append(r.order, position)
	}
}

// exists reports whether the beginning leads to an end.
func (r route) exists() bool { return r.distances[0] >= 0 }

// nearer returns a function that yields the edges that lead from a position nearer to an end, in order.
func (r route) nearer(from int) func(yield func(api.Edge) bool) {
	return func(yield func(api.Edge) bool) {
		for _, e := range r.Edges[from] {
			// What leads from an end to a position that leads to none is not nearer, although -1 is 1 less than 0.
			nearer := r.distances[e.To] >= 0 && r.distances[e.To] == r.distances[from]-1
			if nearer && r.counts(e) && !yield(e) {
				return
			}
		}
	}
}

// first returns the shortest list of moves from the beginning to an end, and of several the first one.
func (r route) first() []api.Move {
	var list []api.Move
	for at := 0; r.distances[at] > 0; {
		for e := range r.nearer(at) {
			list, at = append(list, e.Move), e.To
			break
		}
	}
	return list
}

// count returns how many shortest lists of moves there are, or MaxCount if there are more.
func (r route) count() int {
	counts := make([]int, len(r.Positions))
	for _, from := range r.order {
		if r.distances[from] == 0 {
			counts[from] = 1
		}
		for e := range r.nearer(from) {
			counts[from] = min(counts[from]+counts[e.To], api.MaxCount)
		}
	}
	return counts[0]
}
