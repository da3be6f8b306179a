package prove_test

import (
	"reflect"
	"slices"
	"testing"

	"padlock/api"
	"padlock/play"
	"padlock/prove"
)

const (
	least = -1 << 63
	most  = 1<<63 - 1
)

// example is the game of the chapter's examples, changed.
func example(t *testing.T, changes ...func(*api.Game)) api.Game {
	t.Helper()
	g, _, e := play.Parse("place hall\nplace vault\nthing box at hall states 2 start 0\nthing door at hall states 2 start 0\n" +
		"prop key at hall if box=1\nway hall vault if door=1\n" +
		"act open at hall lock 0 sets box=1\nact turn at hall with key sets door=1 spends key\nplayers 1\ngoal door=1\n" +
		"codelock 2 4 31\nnote leaf at hall lock 0 sum 0 1 4\nnote back at hall if box=0 lock 0 less 1 0\nnote card at vault\ntries 1\n")
	if e != api.OK {
		t.Fatalf("Parse: %d", e)
	}
	for _, change := range changes {
		change(&g)
	}
	return g
}

// Changes of the example.
func lose(g *api.Game) {
	g.Room.Acts = append(g.Room.Acts, api.Act{Name: "lose", Lock: -1, Uses: []int{0}, Spends: []int{0}})
}

func force(g *api.Game) {
	g.Room.Acts = append(g.Room.Acts, api.Act{Name: "force", Lock: -1, When: api.Cond{{Thing: 0, State: 1}}, Sets: []api.Set{{Thing: 1, State: 1}}})
}

func leafAlone(g *api.Game) { g.Notes = g.Notes[:1] }

func team(n int) func(*api.Game) { return func(g *api.Game) { g.Room.Players = n } }

func goal(c ...api.Lit) func(*api.Game) { return func(g *api.Game) { g.Room.Goal = c } }

func tried(n int) func(*api.Game) { return func(g *api.Game) { g.Tries = n } }

// The moves of the example.
var (
	out  = api.Move{Kind: api.Go}
	take = api.Move{Kind: api.Take}
	drop = api.Move{Kind: api.Drop}
	open = do(0)
	turn = do(1)
)

func do(act int) api.Move { return api.Move{Kind: api.Do, Number: act} }

// climb is a game with things that each can be set one state higher as long as they are not in their last one; all have to be. It has as many positions as the product of their states.
func climb(states ...int) api.Game {
	g := api.Game{Room: api.Room{Places: []string{"hall"}, Players: 1}, Tries: 1}
	for i, n := range states {
		g.Room.Things = append(g.Room.Things, api.Thing{Name: letter(i), States: n})
		g.Room.Goal = append(g.Room.Goal, api.Lit{Thing: i, State: n - 1})
		for s := range n - 1 {
			g.Room.Acts = append(g.Room.Acts, api.Act{Name: letter(i) + letter(s), Lock: -1, When: api.Cond{{Thing: i, State: s}}, Sets: []api.Set{{Thing: i, State: s + 1}}})
		}
	}
	return g
}

// count is a game in which the players count to a number, in digits from 0 to 5; at each number there is just one act to do.
func count(digits, to, players int) api.Game {
	g := api.Game{Room: api.Room{Places: []string{"hall"}, Players: players}, Tries: 1}
	for i := range digits {
		g.Room.Things = append(g.Room.Things, api.Thing{Name: letter(i), States: 6})
		for s := range 5 {
			a := api.Act{Name: letter(i) + letter(s), Lock: -1, When: api.Cond{{Thing: i, State: s}}, Sets: []api.Set{{Thing: i, State: s + 1}}}
			for lower := range i {
				a.When = append(a.When, api.Lit{Thing: lower, State: 5})
				a.Sets = append(a.Sets, api.Set{Thing: lower})
			}
			g.Room.Acts = append(g.Room.Acts, a)
		}
		g.Room.Goal = append(g.Room.Goal, api.Lit{Thing: i, State: to % 6})
		to /= 6
	}
	return g
}

func letter(i int) string { return string(rune('a' + i)) }

// largest has just as many positions as there may be, tooLarge one more: behind the last position.
func largest() api.Game { return climb(6, 5, 5, 5, 4) }

func tooLarge() api.Game {
	g := largest()
	g.Room.Things = append(g.Room.Things, api.Thing{Name: "end", States: 2})
	when := append(slices.Clone(g.Room.Goal), api.Lit{Thing: 5})
	g.Room.Acts = append(g.Room.Acts, api.Act{Name: "end", Lock: -1, When: when, Sets: []api.Set{{Thing: 5, State: 1}}})
	return g
}

// P5.1: the example of the chapter.
func TestExplore(t *testing.T) {
	begin, _ := play.Begin(example(t))
	want := api.Graph{Positions: []api.Position{begin}, Edges: [][]api.Edge{
		{{Move: open, To: 1}},
		{{Move: take, To: 2}, {Move: open, To: 1}},
		{{Move: drop, To: 1}, {Move: open, To: 2}, {Move: turn, To: 3}},
		{{Move: out, To: 4}, {Move: open, To: 3}},
		{{Move: out, To: 5}},
		{{Move: out, To: 4}, {Move: open, To: 5}},
	}}
	for _, m := range []api.Move{open, take, turn, out, out} {
		p, _ := play.Step(example(t), want.Positions[len(want.Positions)-1], m)
		want.Positions = append(want.Positions, p)
	}
	if x, e := prove.Explore(example(t)); e != api.OK || !reflect.DeepEqual(x, want) {
		t.Errorf("Explore = %v, %d, want %v", x, e, want)
	}
	alone := api.Game{Room: api.Room{Places: []string{"p"}, Players: 1}, Tries: 1}
	if x, e := prove.Explore(alone); e != api.OK || len(x.Positions) != 1 || len(x.Edges) != 1 || len(x.Edges[0]) != 0 {
		t.Errorf("Explore of a room without moves = %v, %d", x, e)
	}
}

// P5.1: positions differ if only what has been read does.
func TestExploreReads(t *testing.T) {
	g, _, e := play.Parse("place a\nplace b\nway a b\nplayers 1\ngoal\nnote x at b\ntries 1\n")
	if e != api.OK {
		t.Fatal(e)
	}
	x, e := prove.Explore(g)
	if e != api.OK || len(x.Positions) != 3 || !reflect.DeepEqual(x.Positions[0].State, x.Positions[2].State) || !slices.Equal(x.Positions[2].Read, []bool{true}) {
		t.Errorf("Explore = %v, %d", x, e)
	}
	if want := [][]api.Edge{{{Move: out, To: 1}}, {{Move: out, To: 2}}, {{Move: out, To: 1}}}; !reflect.DeepEqual(x.Edges, want) {
		t.Errorf("Edges = %v", x.Edges)
	}
}

// P5.2: the example; -1 for dead positions; 0 for all that are finished, also in between.
func TestDistances(t *testing.T) {
	for i, c := range []struct {
		change func(*api.Game)
		want   []int
	}{
		{force, []int{2, 1, 1, 0, 0, 0, 0, 0, 0, 0, 0, 0, 0, 0}},
		{lose, []int{3, 2, 1, 0, -1, 0, 0}},
		{leafAlone, []int{-1}},
		{goal(), []int{0, 0, 0, 0, 0, 0}},
		{goal(api.Lit{Thing: 0, State: 1}, api.Lit{Thing: 1}), []int{1, 0, 0, -1, -1, -1}},
		{goal(api.Lit{Thing: 1, State: 1}), []int{3, 2, 1, 0, 0, 0}},
	} {
		if l, e := prove.Distances(example(t, c.change)); e != api.OK || !slices.Equal(l, c.want) {
			t.Errorf("%d: %v, %d", i, l, e)
		}
	}
}

// P5.3: the first of the shortest wrong turns, or none.
func TestDead(t *testing.T) {
	again := func(g *api.Game) { lose(g); g.Room.Acts[2].Name = "again" }
	for i, c := range []struct {
		changes []func(*api.Game)
		want    []api.Move
		found   bool
	}{
		{nil, nil, false},
		{[]func(*api.Game){lose}, []api.Move{open, take, do(2)}, true},
		{[]func(*api.Game){again, lose}, []api.Move{open, take, do(2)}, true},
		{[]func(*api.Game){leafAlone}, nil, true},
		{[]func(*api.Game){goal()}, nil, false},
		{[]func(*api.Game){goal(api.Lit{Thing: 0})}, []api.Move{open}, true},
		{[]func(*api.Game){goal(api.Lit{Thing: 1})}, []api.Move{open, take, turn}, true},
		{[]func(*api.Game){team(2), lose}, []api.Move{open, take, do(2)}, true},
	} {
		l, found, e := prove.Dead(example(t, c.changes...))
		if e != api.OK || found != c.found || !slices.Equal(l, c.want) {
			t.Errorf("%d: %v, %v, %d", i, l, found, e)
		}
	}
}

// P5.4 and P5.5: the first of the shortest solutions, and how many there are.
func TestSolve(t *testing.T) {
	for i, c := range []struct {
		changes []func(*api.Game)
		want    []api.Move
		n       int
	}{
		{nil, []api.Move{open, take, turn}, 1},
		{[]func(*api.Game){goal()}, nil, 1},
		{[]func(*api.Game){goal(api.Lit{Thing: 1, Not: true})}, []api.Move{open, take, turn}, 1},
		{[]func(*api.Game){force}, []api.Move{open, do(2)}, 1},
		{[]func(*api.Game){force, force}, []api.Move{open, do(2)}, 2},
		{[]func(*api.Game){team(2)}, []api.Move{open, take, turn}, 4},
		{[]func(*api.Game){team(4)}, []api.Move{open, take, turn}, 16},
		{[]func(*api.Game){leafAlone, tried(3)}, []api.Move{open, take, turn}, 1},
	} {
		g := example(t, c.changes...)
		for j := range g.Room.Acts {
			g.Room.Acts[j].Name = letter(j)
		}
		if l, e := prove.Solve(g); e != api.OK || !slices.Equal(l, c.want) {
			t.Errorf("%d: Solve = %v, %d", i, l, e)
		}
		if n, e := prove.Count(g); n != c.n || e != api.OK {
			t.Errorf("%d: Count = %d, %d", i, n, e)
		}
	}
	for i, change := range []func(*api.Game){leafAlone, goal(api.Lit{Thing: 0}, api.Lit{Thing: 1, State: 1})} {
		g := example(t, change)
		if l, e := prove.Solve(g); e != api.ErrStuck || l != nil {
			t.Errorf("%d: Solve without a solution = %v, %d", i, l, e)
		}
		if n, e := prove.Count(g); n != 0 || e != api.OK {
			t.Errorf("%d: Count without a solution = %d, %d", i, n, e)
		}
	}
}

// P5.4: a solution may be longer than a run.
func TestLongSolution(t *testing.T) {
	g := count(4, 1295, 1)
	l, e := prove.Solve(g)
	if e != api.OK || len(l) != 1295 {
		t.Fatalf("Solve has %d moves, %d", len(l), e)
	}
	p, _ := play.Begin(g)
	for len(l) > 0 {
		n := min(len(l), api.MaxMoves)
		if p, _, e = play.Run(g, p, l[:n]); e != api.OK {
			t.Fatalf("Run: %d", e)
		}
		l = l[n:]
	}
	if !slices.Equal(p.State.Things, []int{5, 5, 5, 5}) {
		t.Errorf("the end is %v", p)
	}
}

// P5.5: up to MaxCount the number is exact.
func TestCountBound(t *testing.T) {
	for _, c := range []struct{ to, players, want int }{
		{1, 4, 4}, {25, 3, 847288609443}, {26, 3, 1 << 40}, {19, 4, 1 << 38}, {20, 4, 1 << 40}, {21, 4, 1 << 40}, {35, 4, 1 << 40}, {35, 2, 1 << 35}, {35, 1, 1},
	} {
		if n, e := prove.Count(count(2, c.to, c.players)); n != c.want || e != api.OK {
			t.Errorf("%v: %d, %d", c, n, e)
		}
	}
	if n, e := prove.Count(climb(6, 5, 5, 5, 4)); n != 244432188000 || e != api.OK {
		t.Errorf("Count = %d, %d", n, e)
	}
}

// P5.6 and P5.7: acts that every solution does, and ways around the others.
func TestAround(t *testing.T) {
	for i, c := range []struct {
		changes   []func(*api.Game)
		essential []int
		around    [][]api.Move // around all acts that are not essential
	}{
		{nil, []int{0, 1}, nil},
		{[]func(*api.Game){lose}, []int{0, 1}, [][]api.Move{{open, take, turn}}},
		{[]func(*api.Game){force}, []int{0}, [][]api.Move{{open, do(2)}, {open, take, turn}}},
		{[]func(*api.Game){lose, force}, []int{0}, [][]api.Move{{open, do(3)}, {open, do(3)}, {open, take, turn}}},
		{[]func(*api.Game){force, team(2)}, []int{0}, [][]api.Move{{open, do(2)}, {open, take, turn}}},
		{[]func(*api.Game){goal()}, nil, [][]api.Move{nil, nil}},
		{[]func(*api.Game){leafAlone, force}, []int{0, 1, 2}, nil},
	} {
		g := example(t, c.changes...)
		l, e := prove.Essential(g)
		if e != api.OK || !slices.Equal(l, c.essential) {
			t.Errorf("%d: Essential = %v, %d", i, l, e)
		}
		var around [][]api.Move
		for act := range g.Room.Acts {
			l, found, e := prove.Around(g, act)
			if e != api.OK || found == slices.Contains(c.essential, act) || !found && l != nil {
				t.Errorf("%d: Around of %d = %v, %v, %d", i, act, l, found, e)
			}
			if found {
				around = append(around, l)
			}
		}
		if !slices.EqualFunc(around, c.around, slices.Equal[[]api.Move]) {
			t.Errorf("%d: ways around are %v", i, around)
		}
	}
}

// P5.8: which act has to be done before which one.
func TestBefore(t *testing.T) {
	for i, c := range []struct {
		changes       []func(*api.Game)
		first, second int
		want          bool
	}{
		{nil, 0, 1, true}, {nil, 1, 0, false}, {nil, 0, 0, false}, {nil, 1, 1, false},
		{[]func(*api.Game){force}, 1, 2, false}, {[]func(*api.Game){force}, 2, 1, false}, {[]func(*api.Game){force}, 0, 2, true},
		// Behind a finished position it goes on.
		{[]func(*api.Game){goal()}, 0, 1, true}, {[]func(*api.Game){goal()}, 1, 0, false},
		// What nobody can do has everything before it, also itself.
		{[]func(*api.Game){leafAlone}, 1, 0, true}, {[]func(*api.Game){leafAlone}, 0, 0, true}, {[]func(*api.Game){leafAlone, lose}, 2, 1, true},
		{[]func(*api.Game){team(2)}, 0, 1, true}, {[]func(*api.Game){team(2), lose}, 1, 2, false},
	} {
		if is, e := prove.Before(example(t, c.changes...), c.first, c.second); is != c.want || e != api.OK {
			t.Errorf("%d: %v, %d", i, is, e)
		}
	}
}

// P5.9: what nobody ever does, takes or reads.
func TestIdle(t *testing.T) {
	never := func(g *api.Game) {
		g.Room.Acts = append(g.Room.Acts, api.Act{Name: "never", Place: 1, Lock: -1, When: api.Cond{{Thing: 1}}})
		g.Room.Props = append(g.Room.Props, api.Prop{Name: "coat", Place: api.Gone}, api.Prop{Name: "cup", Place: 1})
		g.Notes = append(g.Notes, api.Note{Name: "never", Place: 1, Lock: -1, When: api.Cond{{Thing: 0}}})
	}
	// An act that does not let the room settle is not possible, nor is it to take a prop then.
	restless := func(g *api.Game) {
		g.Room.Autos = append(g.Room.Autos, api.Auto{When: api.Cond{{Thing: 0, State: 1}, {Thing: 1}}, Set: api.Set{Thing: 1, State: 1}}, api.Auto{When: api.Cond{{Thing: 0, State: 1}}, Set: api.Set{Thing: 1}})
	}
	for i, c := range []struct {
		changes            []func(*api.Game)
		acts, props, notes []int
	}{
		{nil, nil, nil, nil},
		{[]func(*api.Game){never}, []int{2}, []int{1}, []int{3}},
		{[]func(*api.Game){never, leafAlone, tried(3)}, []int{2}, []int{1}, nil},
		{[]func(*api.Game){leafAlone}, []int{0, 1}, []int{0}, nil},
		{[]func(*api.Game){restless}, []int{0, 1}, []int{0}, []int{2}},
		{[]func(*api.Game){team(3), lose}, nil, nil, nil},
	} {
		acts, props, notes, e := prove.Idle(example(t, c.changes...))
		if e != api.OK || !slices.Equal(acts, c.acts) || !slices.Equal(props, c.props) || !slices.Equal(notes, c.notes) {
			t.Errorf("%d: %v, %v, %v, %d", i, acts, props, notes, e)
		}
	}
}

// P5.10: rounds, of which the last one may end early.
func TestRounds(t *testing.T) {
	for i, c := range []struct {
		g    api.Game
		want int
	}{
		{example(t), 3}, {example(t, team(2)), 2}, {example(t, team(3)), 2}, {example(t, team(4)), 2},
		{example(t, goal()), 0}, {example(t, force), 2}, {example(t, force, team(2)), 1},
		{count(2, 35, 1), 35}, {count(2, 35, 2), 18}, {count(2, 35, 3), 12}, {count(2, 35, 4), 9}, {count(2, 33, 4), 9}, {count(2, 32, 4), 8},
	} {
		if n, e := prove.Rounds(c.g); n != c.want || e != api.OK {
			t.Errorf("%d: %d, %d", i, n, e)
		}
	}
	if n, e := prove.Rounds(example(t, leafAlone, team(2))); n != 0 || e != api.ErrStuck {
		t.Errorf("Rounds without a solution = %d, %d", n, e)
	}
}

// P5.10: in a round the players move in their order: what a player does helps those before only in the next one.
func TestRoundOrder(t *testing.T) {
	g, _, e := play.Parse("place a\nplace b\nthing n at a states 6 start 0\nway a b\n" +
		"act one at a if n=0 sets n=1\nact two at a if n=1 sets n=2\nact three at b if n=2 sets n=3\nact four at b if n=3 sets n=4\nact five at a if n=4 sets n=5\n" +
		"players 2\ngoal n=5\ntries 1\n")
	if e != api.OK {
		t.Fatal(e)
	}
	// Somebody has to be at b. If that is the player 1, three follows on two in the second round, but five has to wait for the fourth; if it is the player 0, three has to wait for the third.
	if n, e := prove.Rounds(g); n != 4 || e != api.OK {
		t.Errorf("Rounds = %d, %d", n, e)
	}
	for i, want := range []int{0, 1, 1, 2, 3, 4} {
		g.Room.Goal[0].State = i
		if n, e := prove.Rounds(g); n != want || e != api.OK {
			t.Errorf("Rounds up to %d = %d, %d", i, n, e)
		}
	}
}

// locked locks an act of a game with a lock of one wheel, of which nothing is known: it opens with as many tries as it has symbols.
func locked(g api.Game, act, symbols int) api.Game {
	g.Room.Acts[act].Lock = len(g.Locks)
	g.Locks, g.Codes = append(g.Locks, api.CodeLock{Wheels: 1, Symbols: symbols}), append(g.Codes, []int{0})
	return g
}

// P5.11: the least number of tries, whatever those of the game are; with other tries a game may have too many positions.
func TestTries(t *testing.T) {
	// From the largest game on, which here counts as finished at its beginning or never, a locked act leads to one position too many.
	beyond := func(symbols int, c ...api.Lit) api.Game {
		g := locked(tooLarge(), 20, symbols)
		g.Room.Goal = c
		return g
	}
	never := []api.Lit{{Thing: 0, State: 1}, {Thing: 0}}
	end := []api.Lit{{Thing: 5, State: 1}}
	for i, c := range []struct {
		g    api.Game
		want int
		e    api.Errno
	}{
		{example(t), 1, api.OK}, {example(t, tried(100)), 1, api.OK},
		{example(t, leafAlone), 3, api.OK}, {example(t, leafAlone, tried(2)), 3, api.OK}, {example(t, leafAlone, tried(3)), 3, api.OK}, {example(t, leafAlone, tried(100)), 3, api.OK},
		{example(t, goal(api.Lit{Thing: 0}, api.Lit{Thing: 0, State: 1})), 0, api.ErrStuck},
		{locked(climb(2), 0, 10), 10, api.OK}, {locked(locked(climb(2, 2), 0, 4), 1, 7), 7, api.OK},
		{beyond(5), 1, api.OK}, {beyond(5, never...), 0, api.ErrMany}, {beyond(5, end...), 0, api.ErrMany},
	} {
		if n, e := prove.Tries(c.g); n != c.want || e != c.e {
			t.Errorf("%d: %d, %d", i, n, e)
		}
	}
	hundred := climb(2)
	hundred.Room.Acts[0].Lock = 0
	hundred.Locks, hundred.Codes = []api.CodeLock{{Wheels: 2, Symbols: 10}}, [][]int{{0, 0}}
	if n, e := prove.Tries(hundred); n != 100 || e != api.OK {
		t.Errorf("Tries with 100 readings = %d, %d", n, e)
	}
	hundred.Locks[0].Wheels, hundred.Codes[0] = 3, []int{0, 0, 0}
	if n, e := prove.Tries(hundred); n != 0 || e != api.ErrStuck {
		t.Errorf("Tries with 1000 readings = %d, %d", n, e)
	}
	// The game itself may not have too many positions, although it has a solution with less tries.
	open := beyond(5)
	open.Tries = 5
	if n, e := prove.Tries(open); n != 0 || e != api.ErrMany {
		t.Errorf("Tries of an open game that is too large = %d, %d", n, e)
	}
}

// certified returns a game with its graph and distances.
func certified(t *testing.T, g api.Game) (api.Graph, []int) {
	t.Helper()
	x, e := prove.Explore(g)
	d, e2 := prove.Distances(g)
	if e != api.OK || e2 != api.OK {
		t.Fatalf("Explore: %d, Distances: %d", e, e2)
	}
	return x, d
}

// P5.12: what is wrong with a certificate.
func TestProves(t *testing.T) {
	for i, c := range []struct {
		change func(*api.Graph, *[]int)
		want   bool
	}{
		{func(x *api.Graph, d *[]int) {}, true},
		{func(x *api.Graph, d *[]int) { *x, *d = api.Graph{}, nil }, false},
		{func(x *api.Graph, d *[]int) { x.Positions = nil }, false},
		{func(x *api.Graph, d *[]int) { x.Edges = nil }, false},
		{func(x *api.Graph, d *[]int) { *d = nil }, false},
		{func(x *api.Graph, d *[]int) { *d = append(*d, 0) }, false},
		{func(x *api.Graph, d *[]int) { x.Edges = append(x.Edges, nil) }, false},
		{func(x *api.Graph, d *[]int) { x.Positions = append(x.Positions, x.Positions[5]) }, false},
		{func(x *api.Graph, d *[]int) { x.Positions, x.Edges, *d = x.Positions[:5], x.Edges[:5], (*d)[:5] }, false},
		// A position that is there twice, or that cannot be reached, is no error if it has what it needs.
		{func(x *api.Graph, d *[]int) {
			x.Positions, x.Edges, *d = append(x.Positions, x.Positions[5]), append(x.Edges, x.Edges[5]), append(*d, 0)
		}, true},
		{func(x *api.Graph, d *[]int) {
			x.Positions, x.Edges, *d = append(x.Positions, x.Positions[5]), append(x.Edges, x.Edges[5]), append(*d, 0)
			x.Edges[4] = []api.Edge{{Move: out, To: 6}}
		}, true},
		{func(x *api.Graph, d *[]int) {
			p := api.Position{State: api.State{Things: []int{1, 1}, Props: []int{api.Gone}, Players: []int{1}}, Read: []bool{false, false, false}}
			x.Positions, x.Edges, *d = append(x.Positions, p), append(x.Edges, []api.Edge{{Move: out, To: 5}}), append(*d, 0)
		}, false},
		// Whoever has not read as many notes as there are stands in no position, although the goal holds.
		{func(x *api.Graph, d *[]int) {
			p := api.Position{State: x.Positions[5].State}
			x.Positions, x.Edges, *d = append(x.Positions, p), append(x.Edges, nil), append(*d, 0)
		}, false},
		{func(x *api.Graph, d *[]int) {
			// The door is open, and the key is still there: in the hall, in the hand, in the vault, with the player in the hall and in the vault.
			for _, spot := range []int{0, api.Held, 1} {
				for place := range 2 {
					x.Positions = append(x.Positions, api.Position{State: api.State{Things: []int{1, 1}, Props: []int{spot}, Players: []int{place}}, Read: []bool{true, true, true}})
					*d = append(*d, 0)
				}
			}
			x.Edges = append(x.Edges,
				[]api.Edge{{Move: out, To: 7}, {Move: take, To: 8}, {Move: open, To: 6}}, []api.Edge{{Move: out, To: 6}},
				[]api.Edge{{Move: out, To: 9}, {Move: drop, To: 6}, {Move: open, To: 8}, {Move: turn, To: 5}}, []api.Edge{{Move: out, To: 8}, {Move: drop, To: 11}},
				[]api.Edge{{Move: out, To: 11}, {Move: open, To: 10}}, []api.Edge{{Move: out, To: 10}, {Move: take, To: 9}})
		}, true},
		{func(x *api.Graph, d *[]int) { x.Positions[0], x.Positions[1] = x.Positions[1], x.Positions[0] }, false},
		{func(x *api.Graph, d *[]int) { x.Positions[0].Read[2] = true }, false},
		{func(x *api.Graph, d *[]int) { x.Positions[5].Read = append(x.Positions[5].Read, true) }, false},
		{func(x *api.Graph, d *[]int) { x.Positions[2].State.Things[0] = 2 }, false},
		{func(x *api.Graph, d *[]int) { x.Positions[2].State = api.State{} }, false},
		{func(x *api.Graph, d *[]int) { x.Edges[2][0], x.Edges[2][1] = x.Edges[2][1], x.Edges[2][0] }, false},
		{func(x *api.Graph, d *[]int) { x.Edges[2] = x.Edges[2][1:] }, false},
		{func(x *api.Graph, d *[]int) { x.Edges[2] = append(x.Edges[2], x.Edges[2][2]) }, false},
		{func(x *api.Graph, d *[]int) { x.Edges[2][0].Move.Player = 1 }, false},
		{func(x *api.Graph, d *[]int) { x.Edges[1][1].To = 2 }, false},
		{func(x *api.Graph, d *[]int) { x.Edges[1][1].To = 6 }, false},
		{func(x *api.Graph, d *[]int) { x.Edges[1][1].To = -1 }, false},
		{func(x *api.Graph, d *[]int) { (*d)[0] = 0 }, false},
		{func(x *api.Graph, d *[]int) { (*d)[0] = 2 }, false},
		{func(x *api.Graph, d *[]int) { (*d)[0] = 4 }, false},
		{func(x *api.Graph, d *[]int) { (*d)[0] = -1 }, false},
		{func(x *api.Graph, d *[]int) { (*d)[3] = 1 }, false},
		{func(x *api.Graph, d *[]int) { (*d)[5] = -1 }, false},
		{func(x *api.Graph, d *[]int) { (*d)[0], (*d)[1], (*d)[2] = least, most, most-1 }, false},
	} {
		x, d := certified(t, example(t))
		c.change(&x, &d)
		if is, e := prove.Proves(example(t), x, d); is != c.want || e != api.OK {
			t.Errorf("%d: %v, %d", i, is, e)
		}
	}
}

// P5.12: distances need not be the least ones, as long as it goes down from each to 0.
func TestProvesDetour(t *testing.T) {
	g := example(t, force)
	x, d := certified(t, g)
	at := x.Edges[1][0].To // with the key in the hand
	for i, c := range []struct {
		first, second, third int
		want                 bool
	}{{2, 1, 1, true}, {3, 2, 1, true}, {2, 2, 1, false}, {3, 3, 1, false}, {3, 2, 2, false}, {3, 1, 2, false}, {2, 1, 2, true}} {
		d[0], d[1], d[at] = c.first, c.second, c.third
		if is, e := prove.Proves(g, x, d); is != c.want || e != api.OK {
			t.Errorf("%d: %v, %d", i, is, e)
		}
	}
}

// P5.12: no graph proves a game with a dead position, or another game.
func TestProvesNothing(t *testing.T) {
	for i, changes := range [][]func(*api.Game){{lose}, {leafAlone}, {goal(api.Lit{Thing: 0})}} {
		g := example(t, changes...)
		x, d := certified(t, g)
		if is, e := prove.Proves(g, x, d); is || e != api.OK {
			t.Errorf("%d: %v, %d", i, is, e)
		}
	}
	x, d := certified(t, example(t))
	for i, change := range []func(*api.Game){force, team(2), tried(1), goal(), func(g *api.Game) { g.Notes[2].Place = 0 }} {
		if is, e := prove.Proves(example(t, change), x, d); is != (i == 2) || e != api.OK {
			t.Errorf("%d: %v, %d", i, is, e)
		}
	}
}
