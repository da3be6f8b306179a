package search_test

import (
	"fmt"
	"math/big"
	"math/rand/v2"
	"slices"
	"testing"

	"padlock/api"
)

// This file says once more, in the plainest way, what the chapter says, so that the tests have something to compare with; and it makes maps.

// atlas is a map: to which positions the edges lead, and the distances.
type atlas struct {
	to        [][]int
	distances []int
}

// link is an edge with the position it belongs to.
type link struct{ position, edge int }

// newAtlas makes a map of the positions to which edges lead, with those distances that there have to be if some positions are finished.
func newAtlas(to [][]int, finished ...int) atlas {
	a := atlas{to: to}
	for i := range to {
		a.distances = append(a.distances, a.length(i, finished, func(link) bool { return true }))
	}
	return a
}

// graph returns a map as an argument.
func (a atlas) graph() api.Graph {
	x := api.Graph{Positions: make([]api.Position, len(a.to)), Edges: make([][]api.Edge, len(a.to))}
	for i, l := range a.to {
		for _, p := range l {
			x.Edges[i] = append(x.Edges[i], api.Edge{To: p})
		}
	}
	return x
}

// length returns with how few links that count a position leads to one of others, or -1.
func (a atlas) length(from int, ends []int, counts func(link) bool) int {
	seen := make([]bool, len(a.to))
	level := []int{from}
	for n := 0; len(level) > 0; n++ {
		var next []int
		for _, i := range level {
			if slices.Contains(ends, i) {
				return n
			}
			for j, to := range a.to[i] {
				if !seen[i] && counts(link{i, j}) {
					next = append(next, to)
				}
			}
			seen[i] = true
		}
		level = next
	}
	return -1
}

// fits reports whether the distances are those that there have to be with the finished positions that they say.
func (a atlas) fits() bool {
	var finished []int
	for i, d := range a.distances {
		if d == 0 {
			finished = append(finished, i)
		}
	}
	return slices.Equal(newAtlas(a.to, finished...).distances, a.distances)
}

// wrong returns how many edges of each position do not lead nearer.
func (a atlas) wrong() []int {
	list := make([]int, len(a.to))
	for i, edges := range a.to {
		for _, to := range edges {
			switch {
			case a.distances[i] == 0, a.distances[i] == -1, a.distances[to] != a.distances[i]-1:
				list[i]++
			}
		}
	}
	return list
}

// widths returns how many positions have each distance.
func (a atlas) widths() []int {
	var list []int
	for d := 0; d <= slices.Max(a.distances); d++ {
		n := 0
		for _, other := range a.distances {
			if other == d {
				n++
			}
		}
		list = append(list, n)
	}
	return list
}

// choices returns how many edges the positions on the way have.
func (a atlas) choices() (list []int, found bool) {
	at := 0
	for d := a.distances[0]; d > 0; d-- {
		list = append(list, len(a.to[at]))
		at = a.to[at][slices.IndexFunc(a.to[at], func(to int) bool { return a.distances[to] == d-1 })]
	}
	return list, a.distances[0] != -1
}

// parts returns the least common multiple of the numbers of edges.
func (a atlas) parts() *big.Int {
	n := big.NewInt(1)
	for i, edges := range a.to {
		if len(edges) > 0 && a.distances[i] != 0 {
			k := big.NewInt(int64(len(edges)))
			n.Mul(n, k).Div(n, new(big.Int).GCD(nil, nil, new(big.Int).Div(n, k), k))
		}
	}
	return n
}

// chance returns the probability from each position on.
func (a atlas) chance(moves int) []*big.Rat {
	list := make([]*big.Rat, len(a.to))
	var behind []*big.Rat
	if moves > 0 {
		behind = a.chance(moves - 1)
	}
	for i, edges := range a.to {
		list[i] = new(big.Rat)
		if a.distances[i] == 0 {
			list[i].SetInt64(1)
		} else if moves > 0 {
			for _, to := range edges {
				list[i].Add(list[i], new(big.Rat).Mul(behind[to], big.NewRat(1, int64(len(edges)))))
			}
		}
	}
	return list
}

// search plays a player step by step, and looks at all ways anew in each step.
func (a atlas) search(m api.Mind, most int) (trail []int, done bool) {
	var memory []link
	at := 0
	for len(trail) < most && a.distances[at] != 0 && len(a.to[at]) > 0 {
		l := link{at, a.step(memory, at, m.Turn)}
		memory = append(slices.DeleteFunc(memory, func(o link) bool { return o == l }), l)
		memory = memory[max(0, len(memory)-m.Memory):]
		trail, at = append(trail, l.edge), a.to[at][l.edge]
	}
	return trail, a.distances[at] == 0
}

// step returns the edge that the player goes.
func (a atlas) step(memory []link, at, turn int) int {
	remembers := func(l link) bool { return slices.Contains(memory, l) }
	n := len(a.to[at])
	for edge := turn % n; edge < turn%n+n; edge++ {
		if !remembers(link{at, edge % n}) {
			return edge % n
		}
	}
	nearest, least := -1, 0
	for i, edges := range a.to {
		isOpen := false
		for j := range edges {
			isOpen = isOpen || !remembers(link{i, j})
		}
		if far := a.length(at, []int{i}, remembers); isOpen && far >= 0 && (nearest < 0 || far < least) {
			nearest, least = i, far
		}
	}
	for edge, to := range a.to[at] {
		if nearest >= 0 && a.length(to, []int{nearest}, remembers) == least-1 {
			return edge
		}
	}
	for _, l := range memory {
		if l.position == at {
			return l.edge
		}
	}
	panic("nothing is remembered")
}

// steps returns the numbers of steps with all turns, or nothing if one of them does not finish.
func (a atlas) steps(memory, most int) []int {
	turns := 1
	for _, edges := range a.to {
		turns = max(turns, len(edges))
	}
	var list []int
	for turn := range turns {
		trail, done := a.search(api.Mind{Memory: memory, Turn: turn}, most)
		if !done {
			return nil
		}
		list = append(list, len(trail))
	}
	return list
}

// lure returns all temptations, the one that counts first.
func (a atlas) lure() []link {
	var list []link
	far := func(l link) int {
		if d := a.distances[a.to[l.position][l.edge]]; d != -1 {
			return d
		}
		return 1000
	}
	for i, edges := range a.to {
		for j := range edges {
			l := link{i, j}
			if a.length(0, []int{i}, func(link) bool { return true }) >= 0 && a.distances[i] > 0 && far(l) > a.distances[i] {
				list = append(list, l)
			}
		}
	}
	slices.SortStableFunc(list, func(l, o link) int { return far(o) - far(l) })
	return list
}

// edges returns how many edges there are.
func (a atlas) edges() int { return len(slices.Concat(a.to...)) }

// reached returns the positions that can be reached.
func (a atlas) reached() []int {
	var list []int
	for i := range a.to {
		if a.length(0, []int{i}, func(link) bool { return true }) >= 0 {
			list = append(list, i)
		}
	}
	return list
}

// reachesDead reports whether a dead position can be reached.
func (a atlas) reachesDead() bool {
	return slices.ContainsFunc(a.reached(), func(i int) bool { return a.distances[i] == -1 })
}

// maker makes maps by chance.
type maker struct{ *rand.Rand }

// atlas makes a map with up to 12 positions; in one half of them ways lead back.
func (k maker) atlas() atlas {
	n := 1 + k.IntN(12)
	to := make([][]int, n)
	twoWays := k.IntN(2) == 0
	for i := range to {
		for range k.IntN(4) {
			p := k.IntN(n)
			to[i] = append(to[i], p)
			if twoWays {
				to[p] = append(to[p], i)
			}
		}
	}
	for i := range to {
		k.Shuffle(len(to[i]), func(a, b int) { to[i][a], to[i][b] = to[i][b], to[i][a] })
	}
	var finished []int
	for range (1 + k.IntN(5)) / 2 {
		finished = append(finished, n-1-k.IntN(1+n/2))
	}
	return newAtlas(to, finished...)
}

// trials runs a test with many maps.
func trials(t *testing.T, n int, test func(t *testing.T, k maker, a atlas)) {
	t.Helper()
	for seed := range n {
		k := maker{rand.New(rand.NewPCG(uint64(seed), 6))}
		a := k.atlas()
		t.Run(fmt.Sprint(seed), func(t *testing.T) { test(t, k, a) })
	}
}
