package prove_test

import (
	"reflect"
	"slices"
	"testing"

	"padlock/api"
	"padlock/play"
	"padlock/prove"
	"padlock/room"
)

// P5.1 and P5.2: graphs and distances against the oracle.
func TestGraphByOracle(t *testing.T) {
	t.Parallel()
	trials(t, 400, 300, func(t *testing.T, k maker, g api.Game, w world) {
		x, e := prove.Explore(g)
		if e != api.OK || len(x.Positions) != len(w.positions) || len(x.Edges) != len(w.edges) {
			t.Fatalf("Explore of %+v = %v, %d", g, x, e)
		}
		for i, p := range w.positions {
			if !reflect.DeepEqual(x.Positions[i], p) || !slices.Equal(x.Edges[i], w.edges[i]) {
				t.Errorf("Explore of %+v, %d: %v with %v, want %v with %v", g, i, x.Positions[i], x.Edges[i], p, w.edges[i])
			}
		}
		if d, e := prove.Distances(g); e != api.OK || !slices.Equal(d, w.distances()) {
			t.Errorf("Distances of %+v = %v, %d, want %v", g, d, e, w.distances())
		}
	})
}

// P5.3, P5.4, P5.5, P5.7 and P5.15: lists of moves against the oracle, which goes by their lengths.
func TestListsByOracle(t *testing.T) {
	t.Parallel()
	dead, around := 0, 0
	trials(t, 500, 200, func(t *testing.T, k maker, g api.Game, w world) {
		list, found, n := w.first(w.done)
		l, e := prove.Solve(g)
		if want := map[bool]api.Errno{true: api.OK, false: api.ErrStuck}[found]; e != want || !slices.Equal(l, list) {
			t.Errorf("Solve of %+v = %v, %d, want %v", g, l, e, list)
		}
		if c, e := prove.Count(g); e != api.OK || float64(c) != min(n, 1<<40) {
			t.Errorf("Count of %+v = %d, %d, want %g", g, c, e, n)
		}
		list, found, _ = w.first(w.dead())
		if l, is, e := prove.Dead(g); e != api.OK || is != found || !slices.Equal(l, list) {
			t.Errorf("Dead of %+v = %v, %v, %d, want %v, %v", g, l, is, e, list, found)
		}
		if found && len(list) > 0 {
			dead++
		}
		for act := range g.Room.Acts {
			list, found, _ := w.without(act).first(w.done)
			if l, is, e := prove.Around(g, act); e != api.OK || is != found || !slices.Equal(l, list) {
				t.Errorf("Around of %d in %+v = %v, %v, %d, want %v, %v", act, g, l, is, e, list, found)
			}
			if found && len(list) > 0 {
				around++
			}
		}
	})
	if dead < 10 || around < 100 {
		t.Errorf("only %d games end dead, and only %d acts have ways around", dead, around)
	}
}

// P5.6, P5.8, P5.9 and P5.10: acts, what is idle, and rounds against the oracle.
func TestActsByOracle(t *testing.T) {
	t.Parallel()
	before, fast := 0, 0
	trials(t, 400, 120, func(t *testing.T, k maker, g api.Game, w world) {
		var essential []int
		for act := range g.Room.Acts {
			if _, found, _ := w.without(act).first(w.done); !found {
				essential = append(essential, act)
			}
			for other := range g.Room.Acts {
				want := w.before(act, other)
				if is, e := prove.Before(g, act, other); e != api.OK || is != want {
					t.Errorf("Before of %d and %d in %+v: %v, %d", act, other, g, is, e)
				}
				if want && !slices.Contains(w.idle(len(g.Room.Acts), api.Do), other) {
					before++
				}
			}
		}
		if l, e := prove.Essential(g); e != api.OK || !slices.Equal(l, essential) {
			t.Errorf("Essential of %+v = %v, %d, want %v", g, l, e, essential)
		}
		acts, props, notes, e := prove.Idle(g)
		if e != api.OK || !slices.Equal(acts, w.idle(len(g.Room.Acts), api.Do)) || !slices.Equal(props, w.idle(len(g.Room.Props), api.Take)) || !slices.Equal(notes, w.unread()) {
			t.Errorf("Idle of %+v = %v, %v, %v, %d", g, acts, props, notes, e)
		}
		rounds, can := w.rounds()
		if n, e := prove.Rounds(g); n != rounds || (e == api.OK) != can || e != api.OK && e != api.ErrStuck {
			t.Errorf("Rounds of %+v = %d, %d, want %d, %v", g, n, e, rounds, can)
		}
		if can && rounds < w.distance(0) {
			fast++
		}
	})
	if before < 100 || fast < 30 {
		t.Errorf("only %d acts are never before others, and only %d games need less rounds than moves", before, fast)
	}
}

// P5.11 and P5.17: tries against the oracle, and one less is not enough.
func TestTriesByOracle(t *testing.T) {
	t.Parallel()
	more := 0
	trials(t, 300, 30, func(t *testing.T, k maker, g api.Game, _ world) {
		want, wrong := tries(t, g)
		n, e := prove.Tries(g)
		if n != want || e != wrong {
			t.Errorf("Tries of %+v = %d, %d, want %d, %d", g, n, e, want, wrong)
		}
		if _, stuck := prove.Solve(g); stuck == api.OK && (n > g.Tries || e != api.OK) {
			t.Errorf("Tries of %+v = %d, %d, although it has a solution", g, n, e)
		}
		if n < 2 {
			return
		}
		more++
		g.Tries = n - 1
		if _, e := prove.Solve(g); e != api.ErrStuck {
			t.Errorf("with one try less than %d, Solve of %+v: %d", n, g, e)
		}
	})
	if more < 10 {
		t.Errorf("only %d games need more than one try", more)
	}
}

// P5.12 and P5.14: Proves takes what Explore and Distances say just if nothing is dead, and of other certificates those that the oracle takes.
func TestProvesByOracle(t *testing.T) {
	t.Parallel()
	right := map[bool]int{}
	trials(t, 300, 40, func(t *testing.T, k maker, g api.Game, _ world) {
		x, d := certified(t, g)
		_, dead, _ := prove.Dead(g)
		if is, e := prove.Proves(g, x, d); e != api.OK || is == dead {
			t.Errorf("Proves of %+v: %v, %d, and dead is %v", g, is, e, dead)
		}
		if dead && k.IntN(10) > 0 {
			return
		}
		type certificate struct {
			Graph     api.Graph
			Distances []int
		}
		eachChange(reflect.ValueOf(certificate{x, d}), func(path string, change func(reflect.Value)) {
			if k.IntN(60) > 0 {
				return
			}
			y, _ := prove.Explore(g)
			c := certificate{y, slices.Clone(d)}
			change(reflect.ValueOf(&c).Elem())
			want := isProof(g, c.Graph, c.Distances)
			if is, e := prove.Proves(g, c.Graph, c.Distances); e != api.OK || is != want {
				t.Errorf("Proves of %+v with %s of %v, %v changed: %v, %d", g, path, x, d, is, e)
			}
			right[want]++
		})
	})
	if right[true] < 5 || right[false] < 1000 {
		t.Errorf("right are %v", right)
	}
}

// P5.13: no play leaves the graph, and every position of it is reached; Solve finishes, and nothing shorter does.
func TestPlayLaw(t *testing.T) {
	t.Parallel()
	trials(t, 200, 1000, func(t *testing.T, k maker, g api.Game, _ world) {
		x, d := certified(t, g)
		at := 0
		for range 30 {
			can, e := play.Can(g, x.Positions[at])
			if e != api.OK || len(can) != len(x.Edges[at]) {
				t.Fatalf("%v is possible at %d, and the edges are %v, %d", can, at, x.Edges[at], e)
			}
			if len(can) == 0 {
				break
			}
			i := k.IntN(len(can))
			p, _ := play.Step(g, x.Positions[at], can[i])
			if at = x.Edges[at][i].To; !reflect.DeepEqual(p, x.Positions[at]) {
				t.Fatalf("%v leads to %v, want %v", can[i], x.Positions[at], p)
			}
		}
		reached := map[int]bool{0: true}
		for i, edges := range x.Edges {
			for _, e := range edges {
				// A position gets its number from one with a lower number.
				reached[e.To] = reached[e.To] || reached[i] && i < e.To
			}
		}
		for i := range x.Positions {
			if !reached[i] {
				t.Errorf("nothing leads to the position %d of %+v", i, g)
			}
		}
		l, e := prove.Solve(g)
		if e == api.ErrStuck && d[0] == -1 {
			return
		}
		if e != api.OK || len(l) != d[0] {
			t.Fatalf("Solve of %+v = %v, %d, and the distance is %d", g, l, e, d[0])
		}
		for n := range len(l) + 1 {
			p, _, e := play.Run(g, x.Positions[0], l[:n])
			if done, _ := room.Done(g.Room, p.State); e != api.OK || done != (n == len(l)) {
				t.Errorf("behind %v of %+v: %v, %d", l[:n], g, done, e)
			}
		}
	})
}

// P5.14: behind a wrong turn nothing finishes; without one, the way goes on from everywhere.
func TestDeadLaw(t *testing.T) {
	t.Parallel()
	found := 0
	trials(t, 500, 500, func(t *testing.T, k maker, g api.Game, _ world) {
		l, dead, e := prove.Dead(g)
		if e != api.OK {
			t.Fatalf("Dead of %+v: %d", g, e)
		}
		x, d := certified(t, g)
		if dead == !slices.Contains(d, -1) {
			t.Errorf("Dead of %+v is %v, and the distances are %v", g, dead, d)
		}
		if !dead {
			return
		}
		found++
		p, _, e := play.Run(g, x.Positions[0], l)
		if e != api.OK {
			t.Fatalf("Run of %v: %d", l, e)
		}
		at := slices.IndexFunc(x.Positions, func(q api.Position) bool { return reflect.DeepEqual(p, q) })
		seen := []int{at}
		for i := 0; i < len(seen); i++ {
			if done, _ := room.Done(g.Room, x.Positions[seen[i]].State); done {
				t.Fatalf("behind %v in %+v the position %d is finished", l, g, seen[i])
			}
			for _, e := range x.Edges[seen[i]] {
				if !slices.Contains(seen, e.To) {
					seen = append(seen, e.To)
				}
			}
		}
	})
	if found < 100 {
		t.Errorf("only %d games can go wrong", found)
	}
}

// P5.15: what every solution does, each solution that is found does; and a way around does not do the act.
func TestEssentialLaw(t *testing.T) {
	t.Parallel()
	trials(t, 250, 500, func(t *testing.T, k maker, g api.Game, _ world) {
		essential, _ := prove.Essential(g)
		solution, stuck := prove.Solve(g)
		for act := range g.Room.Acts {
			is := slices.Contains(essential, act)
			l, found, e := prove.Around(g, act)
			if e != api.OK || found == is || stuck != api.OK && !is {
				t.Errorf("Around of %d in %+v: %v, %d, and the essential acts are %v", act, g, found, e, essential)
			}
			does := func(m api.Move) bool { return m.Kind == api.Do && m.Number == act }
			if is && stuck == api.OK && !slices.ContainsFunc(solution, does) {
				t.Errorf("%v does not do %d in %+v", solution, act, g)
			}
			if !found {
				continue
			}
			begin, _ := play.Begin(g)
			p, done := begin, false
			for len(l) > 0 && e == api.OK {
				p, e = play.Step(g, p, l[0])
				if does(l[0]) {
					t.Errorf("Around does %d in %+v", act, g)
				}
				l = l[1:]
			}
			if done, _ = room.Done(g.Room, p.State); !done || e != api.OK {
				t.Errorf("Around of %d in %+v ends at %v, %d", act, g, p, e)
			}
		}
	})
}

// P5.16: rounds and moves.
func TestRoundsLaw(t *testing.T) {
	t.Parallel()
	trials(t, 300, 500, func(t *testing.T, k maker, g api.Game, _ world) {
		l, stuck := prove.Solve(g)
		n, e := prove.Rounds(g)
		least := (len(l) + g.Room.Players - 1) / g.Room.Players
		if e != stuck || n < least || n > len(l) {
			t.Errorf("Rounds of %+v = %d, %d, and a solution has %d moves, %d", g, n, e, len(l), stuck)
		}
	})
}

// R4: results are new memory, and arguments stay as they are.
func TestMemory(t *testing.T) {
	t.Parallel()
	trials(t, 200, 60, func(t *testing.T, k maker, g api.Game, w world) {
		x, d := certified(t, g)
		act, other := k.IntN(len(g.Room.Acts)), k.IntN(len(g.Room.Acts))
		run := func() [][]any { return calls(g, act, other, x, d) }
		text, _ := play.Format(g)
		before, now := run(), run()
		for _, results := range now {
			for _, r := range results {
				spoil(reflect.ValueOf(&r).Elem())
			}
		}
		if after := run(); !reflect.DeepEqual(before, after) {
			t.Errorf("%v, then %v", before, after)
		}
		if now, _ := play.Format(g); now != text {
			t.Errorf("the game is now %q, and was %q", now, text)
		}
		if !reflect.DeepEqual(x.Positions, w.positions) || !slices.EqualFunc(x.Edges, w.edges, slices.Equal[[]api.Edge]) {
			t.Errorf("the graph is now %v", x)
		}
	})
}

// R4: no two lists of a graph share memory: to write over one, also behind its end, leaves the others.
func TestMemoryOfGraph(t *testing.T) {
	x, _ := prove.Explore(example(t, team(2)))
	want, _ := prove.Explore(example(t, team(2)))
	for i := range x.Positions {
		p, q := &x.Positions[i], want.Positions[i]
		p.State.Things = append(p.State.Things, 77)[:len(q.State.Things)]
		p.State.Props = append(p.State.Props, 77)[:len(q.State.Props)]
		p.State.Players = append(p.State.Players, 77)[:len(q.State.Players)]
		p.Read = append(p.Read, true)[:len(q.Read)]
		x.Edges[i] = append(x.Edges[i], api.Edge{To: 77})[:len(want.Edges[i])]
	}
	if !reflect.DeepEqual(x, want) {
		t.Errorf("%v, want %v", x, want)
	}
	for i := range x.Positions {
		spoil(reflect.ValueOf(&x.Positions[i]).Elem())
		spoil(reflect.ValueOf(&x.Edges[i]).Elem())
		if !reflect.DeepEqual(x.Positions[i+1:], want.Positions[i+1:]) || !reflect.DeepEqual(x.Edges[i+1:], want.Edges[i+1:]) {
			t.Fatalf("the position %d shares memory", i)
		}
	}
}

// R3: nil lists and empty lists are the same.
func TestEmptyLists(t *testing.T) {
	bare := api.Game{Room: api.Room{Places: []string{"p"}, Players: 1}, Tries: 1}
	empty := bare
	empty.Room.Things, empty.Room.Props, empty.Room.Ways, empty.Room.Acts, empty.Room.Autos, empty.Room.Goal = []api.Thing{}, []api.Prop{}, []api.Way{}, []api.Act{}, []api.Auto{}, api.Cond{}
	empty.Locks, empty.Codes, empty.Notes = []api.CodeLock{}, [][]int{}, []api.Note{}
	full := api.Graph{Positions: []api.Position{{State: api.State{Things: []int{}, Props: []int{}, Players: []int{0}}, Read: []bool{}}}, Edges: [][]api.Edge{{}}}
	thin := api.Graph{Positions: []api.Position{{State: api.State{Players: []int{0}}}}, Edges: make([][]api.Edge, 1)}
	for _, g := range []api.Game{bare, empty} {
		for _, x := range []api.Graph{full, thin} {
			if is, e := prove.Proves(g, x, []int{0}); !is || e != api.OK {
				t.Errorf("Proves of %v: %v, %d", x, is, e)
			}
		}
		if l, e := prove.Solve(g); len(l) != 0 || e != api.OK {
			t.Errorf("Solve = %v, %d", l, e)
		}
	}
}

// P0.1: no function panics, whatever the arguments are, and the results depend on them alone; with an error they are zero (R2).
func TestAnyArguments(t *testing.T) {
	t.Parallel()
	numbers := []int{least, -3, -1, 0, 1, 2, 3, 9, most}
	trials(t, 40, 30, func(t *testing.T, k maker, g api.Game, _ world) {
		eachChange(reflect.ValueOf(g), func(path string, change func(reflect.Value)) {
			if k.IntN(5) > 0 {
				return
			}
			number := func() int { return numbers[k.IntN(len(numbers))] }
			x, d := certified(t, g)
			eachChange(reflect.ValueOf(x), func(_ string, change func(reflect.Value)) {
				if k.IntN(100) == 0 {
					change(reflect.ValueOf(&x).Elem())
				}
			})
			if k.IntN(4) == 0 {
				d = []int{number(), number(), number()}
			}
			text, _ := play.Format(g)
			odd, _, _ := play.Parse(text)
			change(reflect.ValueOf(&odd).Elem())
			first, second := number(), number()
			a := calls(odd, first, second, x, d)
			if b := calls(odd, first, second, x, d); !reflect.DeepEqual(a, b) {
				t.Fatalf("%s of %+v: %v, then %v", path, odd, a, b)
			}
			for i, results := range a {
				if e := results[len(results)-1].(api.Errno); e != api.OK && !isError(results, e) {
					t.Errorf("%s of %+v, %s: %v", path, odd, called[i], results)
				}
			}
		})
	})
	huge := api.Graph{Positions: make([]api.Position, 1<<20), Edges: make([][]api.Edge, 1<<20)}
	calls(example(t), most, least, huge, make([]int, 1<<20))
	calls(api.Game{Notes: make([]api.Note, 1<<20)}, most, least, huge, nil)
}
