package prove_test

import (
	"reflect"
	"testing"

	"padlock/api"
	"padlock/play"
	"padlock/prove"
)

// The functions in the order of calls.
var called = []string{"Explore", "Distances", "Dead", "Solve", "Count", "Essential", "Around", "Before", "Idle", "Rounds", "Tries", "Proves"}

// calls returns the results of all functions.
func calls(g api.Game, first, second int, x api.Graph, distances []int) [][]any {
	var all [][]any
	add := func(results ...any) { all = append(all, results) }
	graph, e := prove.Explore(g)
	add(graph, e)
	list, e := prove.Distances(g)
	add(list, e)
	moves, found, e := prove.Dead(g)
	add(moves, found, e)
	moves, e = prove.Solve(g)
	add(moves, e)
	n, e := prove.Count(g)
	add(n, e)
	list, e = prove.Essential(g)
	add(list, e)
	moves, found, e = prove.Around(g, first)
	add(moves, found, e)
	is, e := prove.Before(g, first, second)
	add(is, e)
	acts, props, notes, e := prove.Idle(g)
	add(acts, props, notes, e)
	n, e = prove.Rounds(g)
	add(n, e)
	n, e = prove.Tries(g)
	add(n, e)
	is, e = prove.Proves(g, x, distances)
	add(is, e)
	return all
}

// isError reports whether results are an error, and nothing else.
func isError(results []any, e api.Errno) bool {
	last := len(results) - 1
	for _, x := range results[:last] {
		if !reflect.ValueOf(x).IsZero() {
			return false
		}
	}
	return results[last] == e
}

// Rules R1 and R2: the errors of the game come first, in the order of the chapter, and every other result is zero.
func TestErrorsFirst(t *testing.T) {
	restless := func(g *api.Game) {
		g.Room.Autos = []api.Auto{{When: api.Cond{{Thing: 0}}, Set: api.Set{Thing: 0, State: 1}}, {When: api.Cond{{Thing: 0, State: 1}}, Set: api.Set{Thing: 0}}}
	}
	x, d := certified(t, example(t))
	for i, c := range []struct {
		e api.Errno
		g api.Game
	}{
		{api.ErrThing, example(t, restless, func(g *api.Game) { g.Room.Things[1].Place, g.Tries = 2, 0 })},
		{api.ErrCode, example(t, restless, func(g *api.Game) { g.Codes = nil })},
		{api.ErrNote, example(t, restless, func(g *api.Game) { g.Notes[0].Clue.N = 5 })},
		{api.ErrArg, example(t, restless, tried(0))}, {api.ErrArg, example(t, tried(101))}, {api.ErrArg, example(t, team(0))},
		{api.ErrPlace, api.Game{}},
		{api.ErrAuto, example(t, restless)},
	} {
		for j, results := range calls(c.g, -1, 9, x, d) {
			if !isError(results, c.e) {
				t.Errorf("game %d, %s: %v, want %d", i, called[j], results, c.e)
			}
		}
	}
}

// ErrMany comes with the first position too many, in all functions but Proves, and before the errors of acts.
func TestTooManyPositions(t *testing.T) {
	t.Parallel()
	x, d := certified(t, largest())
	if len(x.Positions) != 3000 {
		t.Fatalf("%d positions", len(x.Positions))
	}
	for j, results := range calls(largest(), 0, 1, x, d) {
		if e := results[len(results)-1]; e != api.OK {
			t.Errorf("%s: %v", called[j], e)
		}
	}
	if is, e := prove.Proves(largest(), x, d); !is || e != api.OK {
		t.Errorf("Proves of the largest game: %v, %d", is, e)
	}
	w, all := newWorld(t, tooLarge(), 4000)
	if !all || len(w.positions) != 3001 {
		t.Fatalf("%d positions", len(w.positions))
	}
	for j, results := range calls(tooLarge(), -1, 99, w.graph(), append(d, 0)) {
		if called[j] != "Proves" && !isError(results, api.ErrMany) {
			t.Errorf("%s: %v, want %d", called[j], results, api.ErrMany)
		}
	}
	if is, e := prove.Proves(tooLarge(), w.graph(), append(d, 0)); is || e != api.OK {
		t.Errorf("Proves of a game that is too large: %v, %d", is, e)
	}
	huge := count(4, 0, 4)
	huge.Room.Places, huge.Room.Ways = []string{"a", "b", "c", "d"}, []api.Way{{A: 0, B: 1}, {A: 0, B: 2}, {A: 0, B: 3}}
	if e := play.Check(huge); e != api.OK {
		t.Fatal(e)
	}
	for j, results := range calls(huge, 0, 0, x, d) {
		if called[j] != "Proves" && !isError(results, api.ErrMany) {
			t.Errorf("%s of a huge game: %v", called[j], results)
		}
	}
}

// P5.7 and P5.8: there have to be the acts.
func TestNoSuchAct(t *testing.T) {
	for _, act := range []int{-1, 2, least, most} {
		if l, found, e := prove.Around(example(t), act); e != api.ErrArg || found || l != nil {
			t.Errorf("Around of %d = %v, %v, %d", act, l, found, e)
		}
		for _, pair := range [][2]int{{0, act}, {act, 0}, {act, act}} {
			if is, e := prove.Before(example(t), pair[0], pair[1]); e != api.ErrArg || is {
				t.Errorf("Before of %v: %v, %d", pair, is, e)
			}
		}
	}
}
