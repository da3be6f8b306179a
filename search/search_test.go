package search_test

import (
	"reflect"
	"slices"
	"testing"

	"padlock/api"
	"padlock/play"
	"padlock/prove"
	"padlock/search"
)

const (
	least = -1 << 63
	most  = 1<<63 - 1
)

// example is the map of the chapter's examples.
func example() atlas {
	return newAtlas([][]int{{1, 2}, {0, 3}, {0}, {4, 1}, {}}, 4)
}

// P6.1: the example, and what the limits allow.
func TestCheck(t *testing.T) {
	if a := example(); !slices.Equal(a.distances, []int{3, 2, 4, 1, 0}) {
		t.Fatalf("the distances of the example are %v", a.distances)
	}
	for i, a := range []atlas{
		example(),
		newAtlas([][]int{{}}, 0), newAtlas([][]int{{}}), newAtlas([][]int{{0}}),
		newAtlas(make([][]int, 300), 299), newAtlas([][]int{make([]int, 100), {0}}, 1),
		newAtlas(slices.Repeat([][]int{slices.Repeat([]int{299}, 100)}, 300), 0),
		newAtlas([][]int{{1, 2, 2}, {1}, {0}, {3, 0}}, 2),
		{[][]int{{1, 2}, {0, 3}, {0}, {4, 1}, {}}, []int{0, 0, 0, 0, 0}},
		{[][]int{{1, 2}, {0, 3}, {0}, {4, 1}, {}}, []int{0, 1, 1, 2, -1}},
		{[][]int{{1, 2}, {0, 3}, {0}, {4, 1}, {}}, []int{-1, -1, -1, -1, -1}},
	} {
		if e := search.Check(a.graph(), a.distances); e != api.OK {
			t.Errorf("%d: %d", i, e)
		}
	}
}

// P6.1: what makes a map not valid.
func TestCheckNot(t *testing.T) {
	for i, change := range []func(x *api.Graph, d *[]int){
		func(x *api.Graph, d *[]int) { *x, *d = api.Graph{}, nil },
		func(x *api.Graph, d *[]int) { *x, *d = newAtlas(make([][]int, 301), 0).graph(), make([]int, 301) },
		func(x *api.Graph, d *[]int) { x.Positions = nil },
		func(x *api.Graph, d *[]int) { x.Positions = append(x.Positions, api.Position{}) },
		func(x *api.Graph, d *[]int) { x.Positions = x.Positions[1:] },
		func(x *api.Graph, d *[]int) { x.Edges = append(x.Edges, nil) },
		func(x *api.Graph, d *[]int) { x.Edges = x.Edges[:4] },
		func(x *api.Graph, d *[]int) { *d = (*d)[:4] },
		func(x *api.Graph, d *[]int) { *d = append(*d, 0) },
		func(x *api.Graph, d *[]int) { x.Edges[4] = make([]api.Edge, 101) },
		func(x *api.Graph, d *[]int) { x.Edges[0][0].To = 5 },
		func(x *api.Graph, d *[]int) { x.Edges[4] = []api.Edge{{To: -1}} },
		func(x *api.Graph, d *[]int) { x.Edges[4] = []api.Edge{{To: 0}, {To: most}} },
		func(x *api.Graph, d *[]int) { x.Edges[2][0].To = 4 },
		func(x *api.Graph, d *[]int) { x.Edges[3] = nil },
		func(x *api.Graph, d *[]int) { (*d)[0] = 4 },
		func(x *api.Graph, d *[]int) { (*d)[0] = 2 },
		func(x *api.Graph, d *[]int) { (*d)[0] = 5 },
		func(x *api.Graph, d *[]int) { (*d)[0] = -1 },
		func(x *api.Graph, d *[]int) { (*d)[0] = -2 },
		func(x *api.Graph, d *[]int) { (*d)[4] = -1 },
		func(x *api.Graph, d *[]int) { (*d)[4] = 1 },
		func(x *api.Graph, d *[]int) { (*d)[4] = -2 },
		func(x *api.Graph, d *[]int) { (*d)[2], (*d)[0] = least, most },
		func(x *api.Graph, d *[]int) { x.Edges[0], (*d)[0] = []api.Edge{{To: 0}}, 1 },
		func(x *api.Graph, d *[]int) {
			x.Edges[0], x.Edges[2], (*d)[0], (*d)[2] = []api.Edge{{To: 2}}, []api.Edge{{To: 0}}, most, least
		},
	} {
		x, d := example().graph(), example().distances
		change(&x, &d)
		if e := search.Check(x, d); e != api.ErrModel {
			t.Errorf("%d: %d", i, e)
		}
		for j, results := range calls(x, d, example().graph(), example().distances, given{memory: -1, turn: -1, most: -1, moves: -1}) {
			if !isError(results, api.ErrModel) {
				t.Errorf("%d, %s: %v", i, called[j], results)
			}
		}
	}
}

// P6.1: only the edges and the distances count.
func TestWhatCounts(t *testing.T) {
	x, d := example().graph(), example().distances
	want := calls(x, d, x, d, given{10, 1, 100, 5})
	for i := range x.Positions {
		x.Positions[i] = api.Position{State: api.State{Things: []int{i, most}, Props: []int{least}}, Read: []bool{true}}
		for j := range x.Edges[i] {
			x.Edges[i][j].Move = api.Move{Player: most, Kind: -j, Number: least}
		}
	}
	if now := calls(x, d, x, d, given{10, 1, 100, 5}); !reflect.DeepEqual(now, want) {
		t.Errorf("%v, want %v", now, want)
	}
}

// climb is a game with things that each can be set one state higher as long as they are not in their last one; all have to be. It has as many positions as the product of their states.
func climb(states ...int) api.Game {
	g := api.Game{Room: api.Room{Places: []string{"hall"}, Players: 1}, Tries: 1}
	for i, n := range states {
		letter := func(n int) string { return string(rune('a' + n)) }
		g.Room.Things = append(g.Room.Things, api.Thing{Name: letter(i), States: n})
		g.Room.Goal = append(g.Room.Goal, api.Lit{Thing: i, State: n - 1})
		for s := range n - 1 {
			g.Room.Acts = append(g.Room.Acts, api.Act{Name: letter(i) + letter(s), Lock: -1, When: api.Cond{{Thing: i, State: s}}, Sets: []api.Set{{Thing: i, State: s + 1}}})
		}
	}
	return g
}

// tooLarge has one position more than a map may have: behind the last one of a game that has just as many.
func tooLarge() api.Game {
	g := climb(6, 5, 5, 2)
	when := g.Room.Goal
	g.Room.Things = append(g.Room.Things, api.Thing{Name: "end", States: 2})
	g.Room.Acts = append(g.Room.Acts, api.Act{Name: "end", Lock: -1, When: when, Sets: []api.Set{{Thing: 4, State: 1}}})
	return g
}

// locked is the game of the chapter 4.
const locked = "place hall\nplace vault\nthing box at hall states 2 start 0\nthing door at hall states 2 start 0\n" +
	"prop key at hall if box=1\nway hall vault if door=1\n" +
	"act open at hall lock 0 sets box=1\nact turn at hall with key sets door=1 spends key\nplayers 1\ngoal door=1\n" +
	"codelock 2 4 31\nnote leaf at hall lock 0 sum 0 1 4\nnote back at hall if box=0 lock 0 less 1 0\nnote card at vault\ntries 1\n"

// P6.1: the map of a game is what prove says of it, up to 300 positions.
func TestMap(t *testing.T) {
	g, _, e := play.Parse(locked)
	if e != api.OK {
		t.Fatal(e)
	}
	_, d, e := search.Map(g)
	if e != api.OK || !slices.Equal(d, []int{3, 2, 1, 0, 0, 0}) {
		t.Errorf("the distances are %v, %d", d, e)
	}
	stuck := g
	stuck.Notes = g.Notes[:1]
	for i, g := range []api.Game{g, stuck, climb(2), climb(6, 5, 5, 2)} {
		x, d, e := search.Map(g)
		wantX, _ := prove.Explore(g)
		wantD, _ := prove.Distances(g)
		if e != api.OK || !reflect.DeepEqual(x, wantX) || !slices.Equal(d, wantD) {
			t.Errorf("%d: %v, %v, %d", i, x, d, e)
		}
		if e := search.Check(x, d); e != api.OK {
			t.Errorf("%d: Check: %d", i, e)
		}
	}
	if x, _, _ := search.Map(climb(6, 5, 5, 2)); len(x.Positions) != 300 {
		t.Errorf("the largest map has %d positions", len(x.Positions))
	}
}

// P6.1: the errors of Explore come first.
func TestMapErrors(t *testing.T) {
	noTries, noPlace, noCode, restless := climb(2), climb(2), climb(2), climb(2)
	noTries.Tries = 0
	noPlace.Room.Places = nil
	noCode.Locks = []api.CodeLock{{Wheels: 1, Symbols: 2}}
	restless.Room.Autos = []api.Auto{{When: api.Cond{{State: 0}}, Set: api.Set{State: 1}}, {When: api.Cond{{State: 1}}, Set: api.Set{State: 0}}}
	for i, c := range []struct {
		g api.Game
		e api.Errno
	}{{api.Game{}, api.ErrPlace}, {noTries, api.ErrArg}, {noPlace, api.ErrPlace}, {noCode, api.ErrCode}, {restless, api.ErrAuto}, {tooLarge(), api.ErrMany}, {climb(6, 5, 5, 5, 5), api.ErrMany}} {
		if x, d, e := search.Map(c.g); e != c.e || d != nil || !reflect.ValueOf(x).IsZero() {
			t.Errorf("%d: %v, %v, %d, want %d", i, x, d, e, c.e)
		}
	}
}

// P6.1: a game may have a position with more edges than a map may have. Map returns it all the same, and the others do not take it.
func TestMapTooWide(t *testing.T) {
	g := api.Game{Room: api.Room{Places: []string{"a", "b"}, Players: 4, Ways: slices.Repeat([]api.Way{{A: 0, B: 1}}, 16)}, Tries: 1}
	for i := range 10 {
		g.Room.Acts = append(g.Room.Acts, api.Act{Name: string(rune('a' + i)), Lock: -1})
	}
	x, d, e := search.Map(g)
	if e != api.OK || len(x.Positions) != 16 || len(x.Edges[0]) != 104 || !slices.Equal(d, make([]int, 16)) {
		t.Fatalf("Map = %v, %v, %d", x, d, e)
	}
	if e := search.Check(x, d); e != api.ErrModel {
		t.Errorf("Check: %d", e)
	}
}

// P6.1: Wrong, Widths and Choices.
func TestLists(t *testing.T) {
	for i, c := range []struct {
		a                      atlas
		wrong, widths, choices []int
		e                      api.Errno // of Choices
	}{
		{example(), []int{1, 1, 0, 1, 0}, []int{1, 1, 1, 1, 1}, []int{2, 2, 2}, api.OK},
		{newAtlas([][]int{{}}, 0), []int{0}, []int{1}, nil, api.OK},
		{newAtlas([][]int{{}}), []int{0}, nil, nil, api.ErrNone},
		{newAtlas([][]int{{1, 0}, {0}}), []int{2, 1}, nil, nil, api.ErrNone},
		// All edges of finished positions are wrong, also those to dead ones, of which the distance is 1 less; and all edges of dead positions.
		{newAtlas([][]int{{1}, {0, 2, 1}, {2, 2}}, 1), []int{0, 3, 2}, []int{1, 1}, []int{1}, api.OK},
		{newAtlas([][]int{{1, 2}, {1}, {}}, 0), []int{2, 1, 0}, []int{1}, nil, api.OK},
		// Several edges lead nearer: the first one is the way.
		{newAtlas([][]int{{0, 2, 1, 1}, {3}, {4, 4, 2}, {}, {3}}, 3, 4), []int{1, 0, 1, 0, 1}, []int{2, 2, 1}, []int{4, 3}, api.OK},
		{newAtlas([][]int{{2, 0, 3}, {}, {0, 1}, {0, 3, 1}}, 1), []int{1, 0, 1, 2}, []int{1, 2, 1}, []int{3, 2}, api.OK},
		{newAtlas([][]int{{3, 0, 2}, {}, {0, 1}, {0, 3, 1}}, 1), []int{1, 0, 1, 2}, []int{1, 2, 1}, []int{3, 3}, api.OK},
		// Positions that cannot be reached count, too.
		{newAtlas([][]int{{}, {0}, {1, 0}, {}}, 0), []int{0, 0, 1, 0}, []int{1, 2}, nil, api.OK},
	} {
		if l, e := search.Wrong(c.a.graph(), c.a.distances); e != api.OK || !slices.Equal(l, c.wrong) {
			t.Errorf("%d: Wrong = %v, %d", i, l, e)
		}
		if l, e := search.Widths(c.a.graph(), c.a.distances); e != api.OK || !slices.Equal(l, c.widths) {
			t.Errorf("%d: Widths = %v, %d", i, l, e)
		}
		if l, e := search.Choices(c.a.graph(), c.a.distances); e != c.e || !slices.Equal(l, c.choices) {
			t.Errorf("%d: Choices = %v, %d", i, l, e)
		}
	}
}

// fan is a position with n edges to itself but for the last one, which finishes; and other positions, from which nothing is reached, with so many edges to the finished one.
func fan(n int, others ...int) atlas {
	to := [][]int{make([]int, n), {}}
	to[0][n-1] = 1
	for _, m := range others {
		to = append(to, slices.Repeat([]int{1}, m))
	}
	return newAtlas(to, 1)
}

// P6.2: chances in lowest terms, and who is finished or stuck stays so.
func TestChance(t *testing.T) {
	for i, c := range []struct {
		a               atlas
		moves, num, den int
		e               api.Errno
	}{
		{example(), 0, 0, 1, 0}, {example(), 2, 0, 1, 0}, {example(), 3, 1, 8, 0}, {example(), 4, 1, 8, 0}, {example(), 5, 1, 4, 0},
		{example(), -1, 0, 0, api.ErrArg}, {example(), 21, 0, 0, api.ErrArg}, {example(), least, 0, 0, api.ErrArg}, {example(), most, 0, 0, api.ErrArg},
		{newAtlas([][]int{{0, 0, 0}}, 0), 0, 1, 1, 0}, {newAtlas([][]int{{0, 1}, {}}, 0), 20, 1, 1, 0},
		{newAtlas([][]int{{}}), 20, 0, 1, 0}, {newAtlas([][]int{{0, 0}}), 20, 0, 1, 0},
		{newAtlas([][]int{{1, 2, 2, 2}, {0}, {}}, 1), 20, 1, 4, 0},
		{newAtlas([][]int{{1, 1, 2, 1}, {0}, {}}, 1), 1, 3, 4, 0},
		{newAtlas([][]int{{1, 1, 2, 3}, {}, {}, {1, 0, 2}}, 1), 2, 7, 12, 0},
		{fan(2), 20, 1<<20 - 1, 1 << 20, 0}, {fan(1), 20, 1, 1, 0}, {fan(3), 2, 5, 9, 0},
		// The bound counts the edges of all positions that have some and are not finished.
		{fan(10), 15, 794108867905351, 1000000000000000, 0}, {fan(10), 16, 0, 0, api.ErrMany},
		{fan(5), 20, 95367431640625 - 1<<40, 95367431640625, 0}, {fan(5, 5), 20, 95367431640625 - 1<<40, 95367431640625, 0},
		{fan(2, 3), 19, 1<<19 - 1, 1 << 19, 0}, {fan(2, 3), 20, 0, 0, api.ErrMany}, {fan(6, 2, 3), 19, 609359740010496 - 19073486328125, 609359740010496, 0},
		{newAtlas([][]int{{0, 1}, {0, 0, 0}, {}}, 1), 20, 1<<20 - 1, 1 << 20, 0},
		{newAtlas([][]int{{0, 1}, {}, {2, 2, 2}}, 1), 20, 0, 0, api.ErrMany},
		{fan(97, 89, 83, 79, 73, 71, 67, 61), 0, 0, 1, 0}, {fan(97, 89, 83, 79, 73, 71, 67, 61), 1, 0, 0, api.ErrMany},
		{fan(97, 89, 83, 79, 73, 71, 67), 1, 1, 97, 0}, {fan(97, 89, 83, 79, 73, 71, 67), 2, 0, 0, api.ErrMany},
		{fan(100, 99, 98, 97, 96, 95, 94, 93, 92, 91, 89, 83, 81, 79, 73, 71, 67, 64, 61, 59, 53), 1, 0, 0, api.ErrMany},
		// Their product modulo 2^64 is small.
		{fan(47, 83, 11, 73, 19, 17, 71, 49, 81, 97, 23, 29), 1, 0, 0, api.ErrMany}, {fan(47, 83, 11, 73, 19, 17, 71, 49, 81, 97, 23, 29), 0, 0, 1, 0},
	} {
		if num, den, e := search.Chance(c.a.graph(), c.a.distances, c.moves); num != c.num || den != c.den || e != c.e {
			t.Errorf("%d: %d/%d, %d, want %d/%d, %d", i, num, den, e, c.num, c.den, c.e)
		}
	}
}

// P6.3: how a player searches.
func TestSearch(t *testing.T) {
	closed := newAtlas([][]int{{1, 1}, {0}})
	for i, c := range []struct {
		a            atlas
		memory, turn int
		most         int
		trail        []int
		done         bool
	}{
		{example(), 10, 0, 100, []int{0, 0, 1, 0, 0, 1, 0}, true},
		{example(), 10, 1, 100, []int{1, 0, 0, 1, 1, 0, 0, 1, 0}, true},
		{example(), 0, 0, 4, []int{0, 0, 0, 0}, false},
		{example(), 10, 0, 7, []int{0, 0, 1, 0, 0, 1, 0}, true}, {example(), 10, 0, 6, []int{0, 0, 1, 0, 0, 1}, false}, {example(), 200, 0, 0, nil, false},
		// Turn is taken modulo the number of edges.
		{example(), 10, 99, 100, []int{1, 0, 0, 1, 1, 0, 0, 1, 0}, true}, {example(), 10, 98, 100, []int{0, 0, 1, 0, 0, 1, 0}, true},
		{newAtlas([][]int{{0, 1, 0}, {}}, 1), 9, 2, 9, []int{2, 0, 1}, true}, {newAtlas([][]int{{0, 1, 0}, {}}, 1), 0, 4, 9, []int{1}, true},
		// A finished position is left no more; a position without edges cannot be.
		{newAtlas([][]int{{0, 0}}, 0), 5, 1, 9, nil, true}, {newAtlas([][]int{{0}}, 0), 5, 1, 0, nil, true}, {newAtlas([][]int{{}}), 5, 1, 9, nil, false},
		{newAtlas([][]int{{1, 2}, {}, {}}, 2), 5, 0, 9, []int{0}, false}, {newAtlas([][]int{{1, 2}, {}, {}}, 2), 5, 1, 9, []int{1}, true},
		// Two positions are equally near: the lowest one, whatever edge leads to it.
		{newAtlas([][]int{{2, 1}, {0, 3}, {0, 3}, {}}, 3), 10, 0, 9, []int{0, 0, 1, 0, 1, 1}, true},
		// Two ways are equally short: that with the lowest first edge, whatever is tried first.
		{newAtlas([][]int{{1, 2}, {3}, {3}, {4, 0, 0}, {}}, 4), 10, 1, 19, []int{1, 0, 1, 0, 0, 2, 0, 0, 0}, true},
		// There is nothing new any more: what was gone first is gone again.
		{closed, 10, 0, 12, []int{0, 0, 1, 0, 0, 0, 1, 0, 0, 0, 1, 0}, false},
		{closed, 3, 0, 8, []int{0, 0, 1, 0, 0, 0, 1, 0}, false},
		// With 2 edges in the memory the first one is forgotten before it would be gone again.
		{closed, 2, 0, 8, []int{0, 0, 1, 0, 0, 0, 1, 0}, false}, {closed, 1, 0, 8, []int{0, 0, 0, 0, 0, 0, 0, 0}, false}, {closed, 1, 1, 5, []int{1, 0, 1, 0, 1}, false},
	} {
		trail, done, e := search.Search(c.a.graph(), c.a.distances, api.Mind{Memory: c.memory, Turn: c.turn}, c.most)
		if !slices.Equal(trail, c.trail) || done != c.done || e != api.OK {
			t.Errorf("%d: %v, %v, %d, want %v, %v", i, trail, done, e, c.trail, c.done)
		}
	}
}

// P6.3: Worst and Mean over all turns.
func TestTurns(t *testing.T) {
	for i, c := range []struct {
		a                     atlas
		memory, most          int
		steps, turn, num, den int
		e                     api.Errno
	}{
		{example(), 10, 100, 9, 1, 8, 1, api.OK}, {example(), 10, 9, 9, 1, 8, 1, api.OK}, {example(), 10, 8, 0, 0, 0, 0, api.ErrNone}, {example(), 5, 2000, 0, 0, 0, 0, api.ErrNone},
		// Without edges, and at the end from the beginning.
		{newAtlas([][]int{{}}, 0), 0, 0, 0, 0, 0, 1, api.OK}, {newAtlas([][]int{{0, 0, 0}}, 0), 0, 0, 0, 0, 0, 1, api.OK}, {newAtlas([][]int{{}}), 0, 2000, 0, 0, 0, 0, api.ErrNone},
		// Edges of all positions make turns, also of finished ones and of those that are not reached.
		{fan(2), 9, 9, 2, 0, 3, 2, api.OK}, {fan(2, 4), 9, 9, 2, 0, 3, 2, api.OK}, {fan(2, 3), 9, 9, 2, 0, 5, 3, api.OK},
		{newAtlas([][]int{{0, 1}, {1, 1, 1}}, 1), 9, 9, 2, 0, 5, 3, api.OK},
		{fan(100), 200, 2000, 100, 0, 101, 2, api.OK}, {fan(1), 0, 1, 1, 0, 1, 1, api.OK}, {fan(3), 2, 3, 3, 0, 2, 1, api.OK}, {fan(3), 1, 3, 0, 0, 0, 0, api.ErrNone},
		// The lowest of the turns that last longest.
		{newAtlas([][]int{{1, 0, 0, 1}, {}}, 1), 9, 9, 3, 1, 7, 4, api.OK}, {newAtlas([][]int{{1, 0, 1, 0}, {}}, 1), 9, 9, 2, 1, 3, 2, api.OK},
	} {
		x := c.a.graph()
		if n, turn, e := search.Worst(x, c.a.distances, c.memory, c.most); n != c.steps || turn != c.turn || e != c.e {
			t.Errorf("%d: Worst = %d, %d, %d", i, n, turn, e)
		}
		if a, b, e := search.Mean(x, c.a.distances, c.memory, c.most); a != c.num || b != c.den || e != c.e {
			t.Errorf("%d: Mean = %d/%d, %d", i, a, b, e)
		}
	}
}

// hub has edges to n leaves, from which one leads back, from the first one along a way of so many edges; and a last edge to a finished position.
func hub(n, long int) atlas {
	to := [][]int{nil}
	for i := range n {
		to[0] = append(to[0], i+1)
		to = append(to, []int{0})
	}
	for range long - 1 {
		to = append(to, to[1])
		to[1] = []int{len(to) - 1}
	}
	to[0] = append(to[0], len(to))
	return newAtlas(append(to, nil), len(to))
}

// P6.3: how much has to be remembered.
func TestNeeds(t *testing.T) {
	for i, c := range []struct {
		a       atlas
		most, n int
		e       api.Errno
	}{
		{example(), 100, 6, api.OK}, {example(), 9, 6, api.OK}, {example(), 8, 0, api.ErrNone}, {example(), 0, 0, api.ErrNone},
		{newAtlas([][]int{{}}, 0), 0, 0, api.OK}, {newAtlas([][]int{{}}), 2000, 0, api.ErrNone}, {fan(1), 1, 0, api.OK}, {fan(1), 0, 0, api.ErrNone},
		{fan(2), 2, 1, api.OK}, {fan(9), 9, 8, api.OK}, {fan(100), 100, 99, api.OK}, {fan(100), 99, 0, api.ErrNone},
		{hub(1, 1), 2000, 2, api.OK}, {hub(2, 1), 2000, 4, api.OK}, {hub(2, 5), 2000, 8, api.OK},
		// No more than 200 edges can be remembered.
		{hub(99, 1), 2000, 198, api.OK}, {hub(99, 3), 2000, 200, api.OK}, {hub(99, 4), 2000, 0, api.ErrNone},
		{newAtlas([][]int{{1, 2}, {}, {}}, 2), 2000, 0, api.ErrNone},
	} {
		if n, e := search.Needs(c.a.graph(), c.a.distances, c.most); n != c.n || e != c.e {
			t.Errorf("%d: %d, %d", i, n, e)
		}
	}
}

// fans are n positions, each with 100 edges: the last one leads to the next of them, or to a finished one, and the others to itself. From the first one so many edges more have to be gone before.
func fans(n, before int) atlas {
	var to [][]int
	for i := range before {
		to = append(to, []int{i + 1})
	}
	for i := range n {
		to = append(to, slices.Repeat([]int{before + i}, 100))
		to[before+i][99]++
	}
	return newAtlas(append(to, nil), len(to))
}

// P6.3: 2000 steps can be made.
func TestManySteps(t *testing.T) {
	a := fans(20, 0)
	if n, turn, e := search.Worst(a.graph(), a.distances, 99, 2000); n != 2000 || turn != 0 || e != api.OK {
		t.Errorf("Worst = %d, %d, %d", n, turn, e)
	}
	if n, e := search.Needs(a.graph(), a.distances, 2000); n != 99 || e != api.OK {
		t.Errorf("Needs = %d, %d", n, e)
	}
	a = fans(20, 1)
	if n, turn, e := search.Worst(a.graph(), a.distances, 99, 2000); n != 0 || turn != 0 || e != api.ErrNone {
		t.Errorf("Worst of more = %d, %d, %d", n, turn, e)
	}
	if n, e := search.Needs(a.graph(), a.distances, 2000); n != 0 || e != api.ErrNone {
		t.Errorf("Needs of more = %d, %d", n, e)
	}
	if trail, done, e := search.Search(a.graph(), a.distances, api.Mind{Memory: 200}, 2000); len(trail) != 2000 || done || e != api.OK {
		t.Errorf("Search makes %d steps, %v, %d", len(trail), done, e)
	}
	a = newAtlas([][]int{{1, 0}, {0}})
	if trail, done, e := search.Search(a.graph(), a.distances, api.Mind{Memory: 200, Turn: 99}, 2000); len(trail) != 2000 || done || e != api.OK {
		t.Errorf("Search in a circle makes %d steps, %v, %d", len(trail), done, e)
	}
}

// P6.4: temptations.
func TestLure(t *testing.T) {
	for i, c := range []struct {
		a              atlas
		position, edge int
		e              api.Errno
	}{
		{example(), 0, 1, api.OK}, {newAtlas([][]int{{1}, {}}, 1), 0, 0, api.ErrNone}, {newAtlas([][]int{{}}), 0, 0, api.ErrNone}, {newAtlas([][]int{{}}, 0), 0, 0, api.ErrNone},
		// A dead end is worse than all others, and worse than none.
		{newAtlas([][]int{{1, 2, 3}, {}, {}, {0}}, 1), 0, 1, api.OK}, {newAtlas([][]int{{1, 3, 2}, {}, {}, {0}}, 1), 0, 2, api.OK}, {newAtlas([][]int{{3}, {}, {}, {0, 4, 2}, {1}}, 1), 3, 2, api.OK},
		// An edge to the same distance is none; of a dead position, too, and of a finished one.
		{newAtlas([][]int{{0, 1, 2}, {}, {1}}, 1), 0, 0, api.ErrNone}, {newAtlas([][]int{{1, 0}, {1}}), 0, 0, api.ErrNone}, {newAtlas([][]int{{1, 2}, {}, {}}, 0), 0, 0, api.ErrNone},
		// The greatest distance, wherever it is.
		{newAtlas([][]int{{1, 3}, {4, 5}, {}, {0}, {}, {3}}, 4), 1, 1, api.OK}, {newAtlas([][]int{{1, 5}, {4, 3}, {}, {0}, {}, {3}}, 4), 0, 1, api.OK}, {newAtlas([][]int{{1}, {4, 3, 5, 3}, {}, {0}, {}, {3}}, 4), 1, 2, api.OK},
		// The lowest position, and then the lowest edge.
		{newAtlas([][]int{{1}, {2, 3, 3}, {4, 3}, {3}, {}}, 4), 1, 1, api.OK}, {newAtlas([][]int{{2}, {4, 3}, {1, 3, 3}, {3}, {}}, 4), 1, 1, api.OK},
		{newAtlas([][]int{{1}, {2, 0, 0}, {3, 0, 0}, {}}, 3), 1, 1, api.OK}, {newAtlas([][]int{{1, 1}, {2, 0}, {3, 1}, {}}, 3), 1, 1, api.OK},
		// What cannot be reached does not tempt; behind a finished position it can be.
		{newAtlas([][]int{{1}, {}, {1, 0}, {1, 4}, {}}, 1), 0, 0, api.ErrNone}, {newAtlas([][]int{{1}, {2}, {1, 3}, {}}, 1), 2, 1, api.OK},
	} {
		if p, edge, e := search.Lure(c.a.graph(), c.a.distances); p != c.position || edge != c.edge || e != c.e {
			t.Errorf("%d: %d, %d, %d", i, p, edge, e)
		}
	}
}

// P6.4: which map is harder, and which error comes first.
func TestHarder(t *testing.T) {
	wrong := atlas{[][]int{{}}, []int{1}}
	stuck := newAtlas([][]int{{}})
	for i, c := range []struct {
		a, b         atlas
		memory, most int
		want         int
		e            api.Errno
	}{
		{example(), fan(1), 10, 100, 1, api.OK}, {fan(1), example(), 10, 100, -1, api.OK}, {example(), example(), 10, 100, 0, api.OK},
		{fan(2), fan(2, 4), 9, 9, 0, api.OK}, {fan(2), fan(2, 3), 9, 9, -1, api.OK}, {fan(2, 3), fan(2), 9, 9, 1, api.OK}, {fan(1), newAtlas([][]int{{}}, 0), 0, 1, 1, api.OK}, {fan(2), fan(3), 9, 9, -1, api.OK},
		{newAtlas([][]int{{}}, 0), newAtlas([][]int{{}, {0}}, 0), 0, 0, 0, api.OK},
		{wrong, example(), -1, 100, 0, api.ErrModel}, {example(), wrong, 10, 100, 0, api.ErrModel},
		{example(), wrong, -1, 100, 0, api.ErrArg}, {example(), wrong, 10, 2001, 0, api.ErrArg}, {stuck, wrong, 10, 100, 0, api.ErrNone}, {wrong, stuck, 10, 100, 0, api.ErrModel},
		{example(), stuck, 10, 100, 0, api.ErrNone}, {stuck, example(), 10, 100, 0, api.ErrNone}, {example(), fan(1), 10, 8, 0, api.ErrNone}, {fan(1), example(), 10, 8, 0, api.ErrNone},
	} {
		if n, e := search.Harder(c.a.graph(), c.b.graph(), c.a.distances, c.b.distances, c.memory, c.most); n != c.want || e != c.e {
			t.Errorf("%d: %d, %d", i, n, e)
		}
	}
}
