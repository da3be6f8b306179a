package hints_test

import (
	"reflect"
	"slices"
	"testing"

	"padlock/api"
	"padlock/hints"
	"padlock/play"
)

// corridor is a game with the locks of a riddle, places in a row, and the aids of a pool as notes there.
func corridor(k maker, r api.Riddle, pool []api.Aid) api.Game {
	g := api.Game{Room: api.Room{Places: []string{"a", "b", "c", "d"}, Players: 1 + k.IntN(2)}, Locks: r.Locks, Codes: r.Codes, Tries: 1}
	for i := range 3 {
		g.Room.Ways = append(g.Room.Ways, api.Way{A: i, B: i + 1})
	}
	for i, a := range pool {
		g.Notes = append(g.Notes, api.Note{Name: string(rune('a' + i)), Place: k.IntN(4), Lock: a.Lock, Clue: a.Clue})
	}
	return g
}

// position is one of the game with all players at the first place.
func position(g api.Game, read ...bool) api.Position {
	return api.Position{State: api.State{Players: make([]int, g.Room.Players)}, Read: read}
}

// leaflets is a game with the locks of the examples, and notes about them and about none.
func leaflets() api.Game {
	g := api.Game{Room: api.Room{Places: []string{"hall"}, Players: 1}, Locks: riddle().Locks, Codes: riddle().Codes, Tries: 1}
	g.Notes = []api.Note{
		{Name: "last", Lock: 1, Clue: not(0, 3)}, {Name: "leaf", Clue: riddle().Known[0][0]}, {Name: "card", Lock: -1}, {Name: "first", Lock: 1, Clue: not(0, 0)},
		{Name: "guess", Clue: api.Clue{Kind: api.Right, Guess: []int{3, 2}, N: 1}},
	}
	return g
}

// P7.1: From has the clues of the notes that have been read, lock by lock, in their order; no ties.
func TestFrom(t *testing.T) {
	g := leaflets()
	clue := func(note int) api.Clue { return g.Notes[note].Clue }
	for _, c := range []struct {
		read  []bool
		known [][]api.Clue
	}{
		{make([]bool, 5), [][]api.Clue{nil, nil}},
		{[]bool{true, true, true, true, true}, [][]api.Clue{{clue(1), clue(4)}, {clue(0), clue(3)}}},
		{[]bool{false, true, true, false, false}, [][]api.Clue{{clue(1)}, nil}},
		{[]bool{true, false, false, true, false}, [][]api.Clue{nil, {clue(0), clue(3)}}},
	} {
		r, e := hints.From(g, position(g, c.read...))
		if want := (api.Riddle{Locks: g.Locks, Codes: g.Codes, Known: c.known}); e != api.OK || !reflect.DeepEqual(r, want) {
			t.Errorf("From with %v = %v, %d, want %v", c.read, r, e, want)
		}
		if e := hints.Check(r); e != api.OK {
			t.Errorf("From with %v is not valid: %d", c.read, e)
		}
	}
}

// P7.1: the errors of From are those of the game, then of the position, then ErrHint if there are no locks.
func TestFromNot(t *testing.T) {
	no := func(g *api.Game) { g.Locks, g.Codes, g.Notes = nil, nil, nil }
	for i, c := range []struct {
		change func(g *api.Game, p *api.Position)
		want   api.Errno
	}{
		{func(g *api.Game, p *api.Position) { *g = api.Game{} }, api.ErrPlace},
		{func(g *api.Game, p *api.Position) { g.Locks[0].Wheels = 5; p.Read = nil }, api.ErrLock},
		{func(g *api.Game, p *api.Position) { g.Codes = nil }, api.ErrCode},
		{func(g *api.Game, p *api.Position) { g.Notes[0].Clue.N = 1 }, api.ErrNote},
		{func(g *api.Game, p *api.Position) { g.Tries = 0; p.State.Players = nil }, api.ErrArg},
		{func(g *api.Game, p *api.Position) { no(g); g.Tries = 101; p.Read = nil }, api.ErrArg},
		{func(g *api.Game, p *api.Position) { p.State.Players = nil }, api.ErrState},
		{func(g *api.Game, p *api.Position) { p.State.Players[0] = 1 }, api.ErrState},
		{func(g *api.Game, p *api.Position) { p.Read = p.Read[1:] }, api.ErrState},
		{func(g *api.Game, p *api.Position) { no(g) }, api.ErrState},
		{func(g *api.Game, p *api.Position) { no(g); p.Read, p.State.Players[0] = nil, -1 }, api.ErrState},
		{func(g *api.Game, p *api.Position) { no(g); p.Read = nil }, api.ErrHint},
		{func(g *api.Game, p *api.Position) { no(g); p.Read = []bool{} }, api.ErrHint},
	} {
		g := leaflets()
		p := position(g, make([]bool, 5)...)
		c.change(&g, &p)
		if r, e := hints.From(g, p); !isError([]any{r, e}, c.want) {
			t.Errorf("%d: From = %v, %d, want %d", i, r, e, c.want)
		}
	}
}

// P7.1: a riddle of a game has as many locks and clues as a game may have, and also more worlds than the other functions take.
func TestFromOfLargest(t *testing.T) {
	g := api.Game{Room: api.Room{Places: []string{"hall"}, Players: 1}, Tries: 1}
	r := simple(8, api.CodeLock{Wheels: 4, Symbols: 10})
	g.Locks, g.Codes = r.Locks, r.Codes
	for i := range 16 {
		g.Notes = append(g.Notes, api.Note{Name: string(rune('a' + i)), Lock: 7, Clue: not(i%4, 1+i/4)})
		r.Known[7] = append(r.Known[7], g.Notes[i].Clue)
	}
	now, e := hints.From(g, position(g, slices.Repeat([]bool{true}, 16)...))
	if e != api.OK || !reflect.DeepEqual(now, r) {
		t.Errorf("From = %v, %d", now, e)
	}
	if n, e := hints.Worlds(now); n != 0 || e != api.ErrMany {
		t.Errorf("Worlds = %d, %d", n, e)
	}
}

// P7.1 and P7.12: along moves From has what play says, and no lock has more possible codes than before.
func TestMovesLaw(t *testing.T) {
	t.Parallel()
	learned := 0
	trials(t, 300, func(t *testing.T, k maker, r api.Riddle, pool []api.Aid) {
		g := corridor(k, r, pool)
		p, e := play.Begin(g)
		if e != api.OK {
			t.Fatalf("Begin: %d", e)
		}
		var before [][][]int
		for range 8 {
			now, e := hints.From(g, p)
			if e != api.OK || len(now.Ties) > 0 {
				t.Fatalf("From = %v, %d", now, e)
			}
			list := all(t, now)
			for lock := range g.Locks {
				if n, e := play.Readings(g, p, lock); n != len(list[lock]) || e != api.OK {
					t.Errorf("%v has %d readings, %d", list[lock], n, e)
				}
				if before != nil && !isWithin(list[lock], before[lock]) {
					t.Errorf("%v are possible for %d, and before %v", list[lock], lock, before[lock])
				}
				if before != nil && len(list[lock]) < len(before[lock]) {
					learned++
				}
			}
			before = list
			moves, _ := play.Can(g, p)
			if p, e = play.Step(g, p, moves[k.IntN(len(moves))]); e != api.OK {
				t.Fatalf("Step: %d", e)
			}
		}
	})
	if learned < 100 {
		t.Errorf("only %d times something was learned", learned)
	}
}
