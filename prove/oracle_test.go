package prove_test

import (
	"fmt"
	"math/rand/v2"
	"slices"
	"testing"

	"padlock/api"
	"padlock/play"
	"padlock/room"
)

// This file says once more, in the plainest way, what the chapter says, so that the tests have something to compare with; and it makes games.

// world is all of a game that can be reached.
type world struct {
	game      api.Game
	positions []api.Position
	edges     [][]api.Edge
	done      []bool
}

// newWorld goes through a game as long as it has no more than so many positions.
func newWorld(t *testing.T, g api.Game, most int) (w world, all bool) {
	t.Helper()
	first, e := play.Begin(g)
	if e != api.OK {
		t.Fatalf("Begin: %d", e)
	}
	w = world{game: g, positions: []api.Position{first}}
	numbers := map[string]int{fmt.Sprint(first): 0}
	for i := 0; i < len(w.positions); i++ {
		p := w.positions[i]
		can, _ := play.Can(g, p)
		var edges []api.Edge
		for _, m := range can {
			q, e := play.Step(g, p, m)
			if e != api.OK {
				t.Fatalf("Step of %v: %d", m, e)
			}
			n, known := numbers[fmt.Sprint(q)]
			if !known {
				n = len(w.positions)
				numbers[fmt.Sprint(q)] = n
				w.positions = append(w.positions, q)
			}
			edges = append(edges, api.Edge{Move: m, To: n})
		}
		done, _ := room.Done(g.Room, p.State)
		w.edges, w.done = append(w.edges, edges), append(w.done, done)
		if len(w.positions) > most {
			return w, false
		}
	}
	return w, true
}

// graph returns a world as a graph.
func (w world) graph() api.Graph { return api.Graph{Positions: w.positions, Edges: w.edges} }

// doing reports whether an edge does an act.
func doing(e api.Edge, act int) bool { return e.Move.Kind == api.Do && e.Move.Number == act }

// without returns a world without the edges that do an act.
func (w world) without(act int) world {
	edges := make([][]api.Edge, len(w.edges))
	for i, l := range w.edges {
		edges[i] = slices.DeleteFunc(slices.Clone(l), func(e api.Edge) bool { return doing(e, act) })
	}
	w.edges = edges
	return w
}

// lists returns how many lists of a length lead from each position to an end: of the length 0, of the length 1, and so on, up to the first length of which there is one from the beginning.
func (w world) lists(ends []bool) (table [][]float64, found bool) {
	now := make([]float64, len(w.positions))
	for i, is := range ends {
		if is {
			now[i] = 1
		}
	}
	for range len(w.positions) + 1 {
		table = append(table, now)
		if now[0] > 0 {
			return table, true
		}
		longer := make([]float64, len(now))
		for i, edges := range w.edges {
			for _, e := range edges {
				longer[i] += now[e.To]
			}
		}
		now = longer
	}
	return nil, false
}

// first returns the first of the shortest lists to an end, and how many such lists there are.
func (w world) first(ends []bool) (list []api.Move, found bool, n float64) {
	table, found := w.lists(ends)
	if !found {
		return nil, false, 0
	}
	at := 0
	for k := len(table) - 2; k >= 0; k-- {
		i := slices.IndexFunc(w.edges[at], func(e api.Edge) bool { return table[k][e.To] > 0 })
		list, at = append(list, w.edges[at][i].Move), w.edges[at][i].To
	}
	return list, true, table[len(table)-1][0]
}

// distance returns with how few moves a position leads to a finished one.
func (w world) distance(from int) int {
	reached, n := []int{from}, 0
	for {
		if slices.ContainsFunc(reached, func(i int) bool { return w.done[i] }) {
			return n
		}
		more := slices.Clone(reached)
		for _, i := range reached {
			for _, e := range w.edges[i] {
				more = append(more, e.To)
			}
		}
		slices.Sort(more)
		if more = slices.Compact(more); len(more) == len(reached) {
			return -1
		}
		reached, n = more, n+1
	}
}

func (w world) distances() []int {
	var list []int
	for i := range w.positions {
		list = append(list, w.distance(i))
	}
	return list
}

// dead reports for each position whether it is dead.
func (w world) dead() []bool {
	var list []bool
	for _, d := range w.distances() {
		list = append(list, d < 0)
	}
	return list
}

// before plays all lists of moves, and remembers with each position whether the first act has been done.
func (w world) before(first, second int) bool {
	type stand struct {
		at   int
		done bool
	}
	seen := []stand{{}}
	for i := 0; i < len(seen); i++ {
		for _, e := range w.edges[seen[i].at] {
			if doing(e, second) && !seen[i].done {
				return false
			}
			if next := (stand{e.To, seen[i].done || doing(e, first)}); !slices.Contains(seen, next) {
				seen = append(seen, next)
			}
		}
	}
	return true
}

// idle returns the numbers below n of which no move of a kind is possible.
func (w world) idle(n, kind int) []int {
	used := make([]bool, n)
	for _, edges := range w.edges {
		for _, e := range edges {
			if e.Move.Kind == kind {
				used[e.Move.Number] = true
			}
		}
	}
	return missing(used)
}

func (w world) unread() []int {
	read := make([]bool, len(w.game.Notes))
	for _, p := range w.positions {
		for i, is := range p.Read {
			read[i] = read[i] || is
		}
	}
	return missing(read)
}

func missing(used []bool) []int {
	var list []int
	for i, is := range used {
		if !is {
			list = append(list, i)
		}
	}
	return list
}

// rounds plays round by round, with all that a round can lead to.
func (w world) rounds() (int, bool) {
	reached := map[int]bool{0: true}
	for n := 0; ; n++ {
		for i := range reached {
			if w.done[i] {
				return n, true
			}
		}
		next := map[int]bool{}
		for i := range reached {
			w.round(i, 0, next)
		}
		if len(next) == len(reached) {
			return 0, false
		}
		reached = next
	}
}

// round gives out where players from one on can lead.
func (w world) round(at, player int, out map[int]bool) {
	if player == w.game.Room.Players {
		out[at] = true
		return
	}
	w.round(at, player+1, out)
	for _, e := range w.edges[at] {
		if e.Move.Player == player {
			w.round(e.To, player+1, out)
		}
	}
}

// tries returns what Tries returns of a game that has not too many positions itself.
func tries(t *testing.T, g api.Game) (int, api.Errno) {
	for n := 1; n <= 100; n++ {
		g.Tries = n
		w, all := newWorld(t, g, 3000)
		if !all {
			return 0, api.ErrMany
		}
		if w.distance(0) >= 0 {
			return n, api.OK
		}
	}
	return 0, api.ErrStuck
}

// isProof reports what Proves does of a game that begins.
func isProof(g api.Game, x api.Graph, distances []int) bool {
	first, _ := play.Begin(g)
	n := len(x.Positions)
	if n < 1 || n > 3000 || n != len(x.Edges) || n != len(distances) || fmt.Sprint(first) != fmt.Sprint(x.Positions[0]) {
		return false
	}
	for i, p := range x.Positions {
		can, e := play.Can(g, p)
		if e != api.OK || len(can) != len(x.Edges[i]) {
			return false
		}
		nearer := false
		for k, m := range can {
			q, _ := play.Step(g, p, m)
			to := x.Edges[i][k].To
			if x.Edges[i][k].Move != m || to < 0 || to >= n || fmt.Sprint(q) != fmt.Sprint(x.Positions[to]) {
				return false
			}
			nearer = nearer || distances[to] == distances[i]-1
		}
		done, _ := room.Done(g.Room, p.State)
		if done != (distances[i] == 0) || !done && (distances[i] < 1 || distances[i] > 3000 || !nearer) {
			return false
		}
	}
	return true
}

// maker makes games by chance, the same ones for the same seed.
type maker struct{ *rand.Rand }

// chance is true in so many cases of ten.
func (k maker) chance(n int) bool { return k.IntN(10) < n }

// lit makes a literal that mostly does not hold at the beginning.
func (k maker) lit(things int) api.Lit {
	l := api.Lit{Thing: k.IntN(things), State: 1}
	if k.chance(4) {
		l.State, l.Not = 0, k.chance(8)
	}
	return l
}

// when makes a condition that mostly is empty.
func (k maker) when(things int) api.Cond {
	if k.chance(7) {
		return nil
	}
	return api.Cond{k.lit(things)}
}

// room makes a valid room whose acts are locked by some of so many locks.
func (k maker) room(locks int) api.Room {
	r := api.Room{Places: []string{"hall", "vault", "attic"}[:1+k.IntN(3)], Players: 1 + k.IntN(3)}
	places, things := len(r.Places), 2+k.IntN(3)
	for i := range things {
		r.Things = append(r.Things, api.Thing{Name: string(rune('a' + i)), Place: k.IntN(places), States: 2 + k.IntN(2)})
	}
	for i := range k.IntN(3) {
		r.Props = append(r.Props, api.Prop{Name: string(rune('a' + i)), Place: k.IntN(places+1) - 1, When: k.when(things)})
	}
	for i := 1; i < places; i++ {
		r.Ways = append(r.Ways, api.Way{A: i, B: k.IntN(i), When: k.when(things)})
	}
	for i := range things + k.IntN(4) {
		r.Acts = append(r.Acts, k.act(r, i, locks))
	}
	if k.chance(2) {
		r.Autos = append(r.Autos, api.Auto{When: api.Cond{k.lit(things), k.lit(things)}, Set: api.Set{Thing: k.IntN(things), State: 1}})
	}
	for i := range things {
		if k.chance(6) {
			s := k.IntN(2)
			r.Goal = append(r.Goal, api.Lit{Thing: i, State: s, Not: s == 0})
		}
	}
	return r
}

// act makes an act that does something to one or two things, mostly under a condition or with a prop.
func (k maker) act(r api.Room, i, locks int) api.Act {
	things, props := len(r.Things), len(r.Props)
	a := api.Act{Name: string(rune('a' + i)), Place: k.IntN(len(r.Places)), Lock: -1, When: k.when(things)}
	t := i % things
	a.Sets = []api.Set{{Thing: t, State: min(1+k.IntN(2), r.Things[t].States-1)}}
	if k.chance(3) {
		a.Sets = append(a.Sets, api.Set{Thing: (t + 1) % things})
	}
	if locks > 0 && k.chance(4) {
		a.Lock = k.IntN(locks)
	}
	if props > 0 && k.chance(6) {
		a.Uses = []int{k.IntN(props)}
		if k.chance(6) {
			a.Spends = a.Uses
		}
		if other := (a.Uses[0] + 1) % props; other != a.Uses[0] && k.chance(3) {
			a.Brings = []int{other}
		}
	} else if props > 0 && k.chance(3) {
		a.Brings = []int{k.IntN(props)}
	}
	return a
}

// game makes a valid game.
func (k maker) game() api.Game {
	locks := k.IntN(3)
	g := api.Game{Room: k.room(locks), Tries: 1 + k.IntN(3)}
	for range locks {
		l := api.CodeLock{Wheels: 1 + k.IntN(2), Symbols: 2 + k.IntN(3)}
		g.Locks = append(g.Locks, l)
		g.Codes = append(g.Codes, []int{k.IntN(l.Symbols), k.IntN(l.Symbols)}[:l.Wheels])
	}
	for i := range k.IntN(5) {
		n := api.Note{Name: string(rune('a' + i)), Place: k.IntN(len(g.Room.Places)), Lock: k.IntN(locks+1) - 1, When: k.when(len(g.Room.Things))}
		if n.Lock >= 0 {
			w := k.IntN(g.Locks[n.Lock].Wheels)
			n.Clue = api.Clue{Kind: api.At, A: w, N: g.Codes[n.Lock][w]}
		}
		g.Notes = append(g.Notes, n)
	}
	return g
}

// trials runs a test with many games that begin and have no more than so many positions.
func trials(t *testing.T, n, most int, test func(t *testing.T, k maker, g api.Game, w world)) {
	t.Helper()
	for seed := range n {
		k := maker{rand.New(rand.NewPCG(uint64(seed), 5))}
		g := k.game()
		if e := play.Check(g); e != api.OK {
			t.Fatalf("seed %d: the game %+v is not valid: %d", seed, g, e)
		}
		if _, e := play.Begin(g); e != api.OK {
			continue
		}
		if w, all := newWorld(t, g, most); all {
			t.Run(fmt.Sprint(seed), func(t *testing.T) { test(t, k, g, w) })
		}
	}
}
