package room_test

import (
	"reflect"
	"slices"
	"testing"

	"padlock/api"
	"padlock/room"
)

// The moves of the example.
var (
	out  = api.Move{Kind: api.Go}
	take = api.Move{Kind: api.Take}
	drop = api.Move{Kind: api.Drop}
	open = api.Move{Kind: api.Do}
	turn = api.Move{Kind: api.Do, Number: 1}
)

// The example of the chapter.
func TestExample(t *testing.T) {
	r := example()
	s := begin(t, r)
	for i, c := range []struct {
		legal []api.Move
		move  api.Move
		show  string
	}{
		{[]api.Move{open}, open, "box=1 door=0 key@hall 0@hall"},
		{[]api.Move{take, open}, take, "box=1 door=0 key@0 0@hall"},
		{[]api.Move{drop, open, turn}, turn, "box=1 door=1 key@gone 0@hall"},
		{[]api.Move{out, open}, out, "box=1 door=1 key@gone 0@vault"},
		{[]api.Move{out}, out, "box=1 door=1 key@gone 0@hall"},
	} {
		if l, e := room.Legal(r, s); e != api.OK || !slices.Equal(l, c.legal) {
			t.Errorf("%d: Legal = %v, %d", i, l, e)
		}
		s, _ = room.Step(r, s, c.move)
		if show, e := room.Show(r, s); e != api.OK || show != c.show {
			t.Errorf("%d: Show = %q, %d", i, show, e)
		}
	}
	r.Autos = []api.Auto{{When: api.Cond{{State: 1}}, Set: api.Set{Thing: 1}}, {When: api.Cond{{State: 1}}, Set: api.Set{Thing: 1, State: 1}}}
	if s, e := room.Step(r, begin(t, r), open); e != api.ErrAuto || !reflect.DeepEqual(s, api.State{}) {
		t.Errorf("open with autos: %v, %d", s, e)
	}
}

// crowd has five props in two places, ways, acts with and without props, and two players.
func crowd() api.Room {
	r := api.Room{Places: []string{"hall", "attic", "cellar"}, Players: 2}
	for _, name := range []string{"a", "b", "c", "d", "e", "f"} {
		r.Props = append(r.Props, api.Prop{Name: name})
	}
	r.Props[4].Place, r.Props[5].Place = api.Gone, api.Gone
	r.Things = []api.Thing{{Name: "lamp", States: 3}, {Name: "trap", Place: 1, States: 2}}
	r.Ways = []api.Way{{A: 1, B: 0}, {A: 1, B: 2, When: api.Cond{{Thing: 1, State: 1}}}}
	r.Acts = []api.Act{
		{Name: "mix", Lock: -1, Uses: []int{0, 1}, Spends: []int{0}, Brings: []int{4}},
		{Name: "find", Lock: -1, Brings: []int{4, 5}},
		{Name: "dim", Lock: 3, When: api.Cond{{State: 2, Not: true}}, Sets: []api.Set{{State: 2}, {Thing: 1, State: 1}}},
		{Name: "burn", Place: 1, Lock: -1, Uses: []int{2}, Spends: []int{2}},
		{Name: "wait", Lock: -1},
	}
	return r
}

// P2.6: what makes a move legal, and what happens.
func TestStep(t *testing.T) {
	r := crowd()
	state := func(things, props, players []int) api.State {
		return api.State{Things: things, Props: props, Players: players}
	}
	none := api.State{}
	for name, c := range map[string]struct {
		from api.State
		move api.Move
		want api.State
	}{
		"go from B":             {state([]int{0, 0}, []int{0, 0, 0, 0, -1, -1}, []int{0, 0}), api.Move{Player: 1, Kind: 1}, state([]int{0, 0}, []int{0, 0, 0, 0, -1, -1}, []int{0, 1})},
		"go from A":             {state([]int{0, 0}, []int{0, 0, -2, 0, -1, -1}, []int{1, 0}), api.Move{Kind: 1}, state([]int{0, 0}, []int{0, 0, -2, 0, -1, -1}, []int{0, 0})},
		"go from elsewhere":     {state([]int{0, 0}, []int{0, 0, 0, 0, -1, -1}, []int{2, 0}), api.Move{Kind: 1}, none},
		"go a shut way":         {state([]int{0, 0}, []int{0, 0, 0, 0, -1, -1}, []int{1, 0}), api.Move{Kind: 1, Number: 1}, none},
		"go an open way":        {state([]int{0, 1}, []int{0, 0, 0, 0, -1, -1}, []int{1, 0}), api.Move{Kind: 1, Number: 1}, state([]int{0, 1}, []int{0, 0, 0, 0, -1, -1}, []int{2, 0})},
		"take with two":         {state([]int{0, 0}, []int{-2, -2, -3, 0, -3, -3}, []int{0, 0}), api.Move{Kind: 2, Number: 3}, state([]int{0, 0}, []int{-2, -2, -3, -2, -3, -3}, []int{0, 0})},
		"take with three":       {state([]int{0, 0}, []int{-2, -2, -2, 0, -1, -1}, []int{0, 0}), api.Move{Kind: 2, Number: 3}, none},
		"take what one has":     {state([]int{0, 0}, []int{-2, 0, 0, 0, -1, -1}, []int{0, 0}), api.Move{Kind: 2}, none},
		"take from a hand":      {state([]int{0, 0}, []int{-3, 0, 0, 0, -1, -1}, []int{0, 0}), api.Move{Kind: 2}, none},
		"take from elsewhere":   {state([]int{0, 0}, []int{1, 0, 0, 0, -1, -1}, []int{0, 0}), api.Move{Kind: 2}, none},
		"take what is gone":     {state([]int{0, 0}, []int{-1, 0, 0, 0, -1, -1}, []int{0, 0}), api.Move{Kind: 2}, none},
		"drop":                  {state([]int{0, 0}, []int{0, -3, 0, 0, -1, -1}, []int{0, 2}), api.Move{Player: 1, Kind: 3, Number: 1}, state([]int{0, 0}, []int{0, 2, 0, 0, -1, -1}, []int{0, 2})},
		"drop of another":       {state([]int{0, 0}, []int{0, -2, 0, 0, -1, -1}, []int{0, 0}), api.Move{Player: 1, Kind: 3, Number: 1}, none},
		"drop what lies":        {state([]int{0, 0}, []int{0, 0, 0, 0, -1, -1}, []int{0, 0}), api.Move{Kind: 3}, none},
		"drop what is gone":     {state([]int{0, 0}, []int{-1, 0, 0, 0, -1, -1}, []int{0, 0}), api.Move{Kind: 3}, none},
		"do":                    {state([]int{1, 0}, []int{-2, -2, -2, 0, -1, -1}, []int{0, 0}), api.Move{Kind: 4}, state([]int{1, 0}, []int{-1, -2, -2, 0, -2, -1}, []int{0, 0})},
		"do with half":          {state([]int{0, 0}, []int{-2, -3, 0, 0, -1, -1}, []int{0, 0}), api.Move{Kind: 4}, none},
		"do elsewhere":          {state([]int{0, 0}, []int{-2, -2, 0, 0, -1, -1}, []int{1, 0}), api.Move{Kind: 4}, none},
		"bring what lies":       {state([]int{0, 0}, []int{-2, -2, 0, 0, 0, -1}, []int{0, 0}), api.Move{Kind: 4}, none},
		"bring what one has":    {state([]int{0, 0}, []int{-2, -2, 0, 0, -2, -1}, []int{0, 0}), api.Move{Kind: 4}, none},
		"bring into a hand":     {state([]int{0, 0}, []int{-3, 0, 0, 0, -1, -1}, []int{0, 0}), api.Move{Player: 1, Kind: 4, Number: 1}, state([]int{0, 0}, []int{-3, 0, 0, 0, -3, -3}, []int{0, 0})},
		"bring into full hands": {state([]int{0, 0}, []int{-2, -2, 0, 0, -1, -1}, []int{0, 0}), api.Move{Kind: 4, Number: 1}, none},
		"wait with too many":    {state([]int{0, 0}, []int{-2, -2, -2, -2, -1, -1}, []int{0, 0}), api.Move{Kind: 4, Number: 4}, none},
		"wait with three":       {state([]int{0, 0}, []int{-2, -2, -2, 0, -1, -1}, []int{0, 0}), api.Move{Kind: 4, Number: 4}, state([]int{0, 0}, []int{-2, -2, -2, 0, -1, -1}, []int{0, 0})},
		"burn with four":        {state([]int{0, 0}, []int{-2, -2, -2, -2, -1, -1}, []int{1, 0}), api.Move{Kind: 4, Number: 3}, state([]int{0, 0}, []int{-2, -2, -1, -2, -1, -1}, []int{1, 0})},
		"drop with four":        {state([]int{0, 0}, []int{-2, -2, -2, -2, -1, -1}, []int{1, 0}), api.Move{Kind: 3, Number: 3}, state([]int{0, 0}, []int{-2, -2, -2, 1, -1, -1}, []int{1, 0})},
		"set":                   {state([]int{0, 0}, []int{0, 0, 0, 0, -1, -1}, []int{0, 0}), api.Move{Player: 1, Kind: 4, Number: 2}, state([]int{2, 1}, []int{0, 0, 0, 0, -1, -1}, []int{0, 0})},
		"set against a cond":    {state([]int{2, 0}, []int{0, 0, 0, 0, -1, -1}, []int{0, 0}), api.Move{Kind: 4, Number: 2}, none},
		"no player":             {state([]int{0, 0}, []int{0, 0, 0, 0, -1, -1}, []int{0, 0}), api.Move{Player: 2, Kind: 1}, none},
		"a negative player":     {state([]int{0, 0}, []int{0, 0, 0, 0, -1, -1}, []int{0, 0}), api.Move{Player: -1, Kind: 1}, none},
		"no kind":               {state([]int{0, 0}, []int{0, 0, 0, 0, -1, -1}, []int{0, 0}), api.Move{}, none},
		"no kind at all":        {state([]int{0, 0}, []int{0, 0, 0, 0, -1, -1}, []int{0, 0}), api.Move{Kind: 5}, none},
		"no way":                {state([]int{0, 1}, []int{0, 0, 0, 0, -1, -1}, []int{1, 0}), api.Move{Kind: 1, Number: 2}, none},
		"no prop":               {state([]int{0, 0}, []int{0, 0, 0, 0, -1, -1}, []int{0, 0}), api.Move{Kind: 2, Number: 6}, none},
		"no act":                {state([]int{0, 0}, []int{0, 0, 0, 0, -1, -1}, []int{0, 0}), api.Move{Kind: 4, Number: 5}, none},
		"a negative number":     {state([]int{0, 0}, []int{-2, 0, 0, 0, -1, -1}, []int{0, 0}), api.Move{Kind: 3, Number: -1}, none},
		"the greatest number":   {state([]int{0, 0}, []int{0, 0, 0, 0, -1, -1}, []int{0, 0}), api.Move{Kind: 4, Number: most}, none},
	} {
		want := api.OK
		if c.want.Players == nil {
			want = api.ErrMove
		}
		s, e := room.Step(r, c.from, c.move)
		if e != want || !reflect.DeepEqual(s, c.want) {
			t.Errorf("%s: %v, %d, want %v, %d", name, s, e, c.want, want)
		}
		if l, e := room.Legal(r, c.from); e != api.OK || slices.Contains(l, c.move) != (want == api.OK) {
			t.Errorf("%s: Legal = %v, %d", name, l, e)
		}
	}
}

// P2.5: the order of moves: by player, kind, and number.
func TestLegalOrder(t *testing.T) {
	s := api.State{Things: []int{0, 1}, Props: []int{1, -2, 0, 1, -3, -3}, Players: []int{1, 0}}
	want := []api.Move{{Kind: 1}, {Kind: 1, Number: 1}, {Kind: 2}, {Kind: 2, Number: 3}, {Kind: 3, Number: 1}, {Player: 1, Kind: 1}, {Player: 1, Kind: 2, Number: 2}, {Player: 1, Kind: 3, Number: 4}, {Player: 1, Kind: 3, Number: 5}, {Player: 1, Kind: 4, Number: 2}, {Player: 1, Kind: 4, Number: 4}}
	if l, e := room.Legal(crowd(), s); e != api.OK || !slices.Equal(l, want) {
		t.Errorf("Legal = %v, %d", l, e)
	}
	if l, e := room.Legal(api.Room{Places: []string{"p"}, Players: 4}, api.State{Players: []int{0, 0, 0, 0}}); e != api.OK || len(l) != 0 {
		t.Errorf("Legal of an empty room = %v, %d", l, e)
	}
}

// P2.7: playing moves, and the first one that has an error.
func TestRun(t *testing.T) {
	r, s := example(), begin(t, example())
	if end, at, e := room.Run(r, s, []api.Move{open, take, turn, out}); e != api.OK || at != 0 || !reflect.DeepEqual(end, api.State{Things: []int{1, 1}, Props: []int{-1}, Players: []int{1}}) {
		t.Errorf("Run = %v, %d, %d", end, at, e)
	}
	for _, none := range [][]api.Move{nil, {}} {
		if end, at, e := room.Run(r, s, none); e != api.OK || at != 0 || !sameState(end, s) {
			t.Errorf("Run of no moves = %v, %d, %d", end, at, e)
		}
	}
	opens := slices.Repeat([]api.Move{open}, 501)
	if end, at, e := room.Run(r, s, opens[:500]); e != api.OK || at != 0 || end.Things[0] != 1 {
		t.Errorf("Run of 500 moves = %v, %d, %d", end, at, e)
	}
	loop := changed(func(r *api.Room) {
		r.Autos = []api.Auto{{When: api.Cond{{State: 1}}, Set: api.Set{Thing: 1}}, {When: api.Cond{{State: 1}}, Set: api.Set{Thing: 1, State: 1}}}
	})
	last := append(slices.Clone(opens[:499]), turn)
	for i, c := range []struct {
		r     api.Room
		moves []api.Move
		at    int
		e     api.Errno
	}{
		{r, opens, 0, api.ErrMany}, {r, slices.Repeat([]api.Move{{}}, 501), 0, api.ErrMany}, {r, []api.Move{turn, turn}, 0, api.ErrMove}, {r, []api.Move{open, turn, open}, 1, api.ErrMove}, {r, []api.Move{open, open, {Kind: 9}}, 2, api.ErrMove}, {r, last, 499, api.ErrMove},
		{loop, []api.Move{open, turn}, 0, api.ErrAuto}, {loop, []api.Move{take, open}, 0, api.ErrMove},
	} {
		if end, at, e := room.Run(c.r, s, c.moves); at != c.at || e != c.e || !reflect.DeepEqual(end, api.State{}) {
			t.Errorf("%d: Run = %v, %d, %d, want %d, %d", i, end, at, e, c.at, c.e)
		}
	}
}

// P2.8: what players see.
func TestLook(t *testing.T) {
	r := crowd()
	r.Players, r.Props[3].When = 3, api.Cond{{Thing: 0, State: 1}}
	s := api.State{Things: []int{0, 0}, Props: []int{0, -3, -2, 0, -4, 1}, Players: []int{0, 1, 0}}
	see := func(player int, things, props, players []int, want api.Errno) {
		t.Helper()
		a, b, c, e := room.Look(r, s, player)
		if !slices.Equal(a, things) || !slices.Equal(b, props) || !slices.Equal(c, players) || e != want {
			t.Errorf("Look of %d = %v, %v, %v, %d", player, a, b, c, e)
		}
	}
	see(0, []int{0}, []int{0, 2, 4}, []int{2}, api.OK)
	see(1, []int{1}, []int{1, 5}, nil, api.OK)
	see(2, []int{0}, []int{0, 2, 4}, []int{0}, api.OK)
	s.Things[0], s.Props[1] = 1, api.Gone
	see(0, []int{0}, []int{0, 2, 3, 4}, []int{2}, api.OK)
	see(1, []int{1}, []int{5}, nil, api.OK)
	s.Props[3] = -2
	s.Things[0] = 0
	see(2, []int{0}, []int{0, 2, 3, 4}, []int{0}, api.OK)
	for _, player := range []int{-1, 3, least, most} {
		see(player, nil, nil, nil, api.ErrArg)
	}
	r.Players, s.Players = 1, []int{2}
	s.Props = []int{0, 0, 0, 0, 0, 0}
	see(0, nil, nil, nil, api.OK)
}

// P2.5 to P2.8, P2.13 and P2.14: against the oracle, from any states on.
func TestMovesByOracle(t *testing.T) {
	trials(t, 400, func(t *testing.T, k maker, r api.Room) {
		s := k.state(r)
		want, settles := rest(r, s)
		if u, e := room.Settle(r, s); settles && (e != api.OK || !sameState(u, want)) || !settles && (e != api.ErrAuto || u.Players != nil) {
			t.Errorf("Settle(%v) = %v, %d, want %v, %v", s, u, e, want, settles)
		}
		var played []api.Move
		first := s
		for range 30 {
			var legal, possible []api.Move
			for _, m := range everyMove(r) {
				u, is := behind(r, s, m)
				u, settles := rest(r, u)
				got, e := room.Step(r, s, m)
				switch {
				case !is && (e != api.ErrMove || got.Players != nil), is && !settles && (e != api.ErrAuto || got.Players != nil), is && settles && (e != api.OK || !sameState(got, u)):
					t.Fatalf("Step(%+v, %v, %v) = %v, %d, want %v, %v, %v", r, s, m, got, e, u, is, settles)
				}
				if is {
					legal = append(legal, m)
				}
				if is && settles {
					possible = append(possible, m)
				}
			}
			if l, e := room.Legal(r, s); e != api.OK || !slices.Equal(l, legal) {
				t.Fatalf("Legal(%+v, %v) = %v, %d, want %v", r, s, l, e, legal)
			}
			if len(possible) == 0 {
				break
			}
			m := possible[k.IntN(len(possible))]
			played = append(played, m)
			s, _ = room.Step(r, s, m)
			checkSettled(t, r, s)
			checkLook(t, r, s)
		}
		checkRun(t, r, first, played, s)
	})
}

// P2.13: a state behind a step is one of the room, and settled.
func checkSettled(t *testing.T, r api.Room, s api.State) {
	t.Helper()
	if e := room.CheckState(r, s); e != api.OK {
		t.Errorf("CheckState(%v) = %d", s, e)
	}
	if u, e := room.Settle(r, s); e != api.OK || !sameState(u, s) {
		t.Errorf("Settle(%v) = %v, %d", s, u, e)
	}
}

func checkLook(t *testing.T, r api.Room, s api.State) {
	t.Helper()
	for player, here := range s.Players {
		var things, props, players []int
		for i, x := range r.Things {
			if x.Place == here {
				things = append(things, i)
			}
		}
		for i, at := range s.Props {
			if at >= 0 && at == here && isTrue(s, r.Props[i].When) || at < -1 && s.Players[-2-at] == here {
				props = append(props, i)
			}
		}
		for i, place := range s.Players {
			if i != player && place == here {
				players = append(players, i)
			}
		}
		if a, b, c, e := room.Look(r, s, player); e != api.OK || !slices.Equal(a, things) || !slices.Equal(b, props) || !slices.Equal(c, players) {
			t.Errorf("Look(%v, %d) = %v, %v, %v, %d", s, player, a, b, c, e)
		}
	}
}

// P2.14: a run can be cut anywhere.
func checkRun(t *testing.T, r api.Room, s api.State, moves []api.Move, want api.State) {
	t.Helper()
	for i := range len(moves) + 1 {
		middle, at, e := room.Run(r, s, moves[:i])
		if at != 0 || e != api.OK {
			t.Fatalf("Run of %v = %d, %d", moves[:i], at, e)
		}
		if end, at, e := room.Run(r, middle, moves[i:]); at != 0 || e != api.OK || !sameState(end, want) {
			t.Errorf("Run of %v = %v, %d, %d, want %v", moves[i:], end, at, e, want)
		}
	}
}

// P2.13: a move is legal exactly if Step does not say that it is none, whatever its numbers are; Begin is settled.
func TestLegalLaw(t *testing.T) {
	numbers := []int{least, -2, -1, 0, 1, 2, 3, 4, 5, 9, most}
	trials(t, 60, func(t *testing.T, k maker, r api.Room) {
		s, e := room.Begin(r)
		if e != api.OK {
			s = k.state(r)
		} else {
			checkSettled(t, r, s)
		}
		legal, _ := room.Legal(r, s)
		n := 0
		for _, player := range numbers {
			for _, kind := range numbers {
				for _, number := range numbers {
					m := api.Move{Player: player, Kind: kind, Number: number}
					_, e := room.Step(r, s, m)
					if (e != api.ErrMove) != slices.Contains(legal, m) {
						t.Errorf("Step of %v: %d, Legal is %v", m, e, legal)
					}
					if e != api.ErrMove {
						n++
					}
				}
			}
		}
		if n != len(slices.DeleteFunc(slices.Clone(legal), func(m api.Move) bool { return !slices.Contains(numbers, m.Number) })) {
			t.Errorf("%d of %d legal moves", n, len(legal))
		}
	})
}

// P2.15: from settled states only acts change things; what is taken can be dropped, and a way can be gone back.
func TestThereAndBackLaw(t *testing.T) {
	trials(t, 200, func(t *testing.T, k maker, r api.Room) {
		s, e := room.Settle(r, k.state(r))
		if e != api.OK {
			return
		}
		legal, _ := room.Legal(r, s)
		for _, m := range legal {
			if m.Kind == api.Do {
				continue
			}
			u, e := room.Step(r, s, m)
			if e != api.OK || !slices.Equal(u.Things, s.Things) {
				t.Errorf("%v from %v: %v, %d", m, s, u, e)
			}
			back := m
			if m.Kind == api.Take {
				back.Kind = api.Drop
			}
			if v, e := room.Step(r, u, back); m.Kind != api.Drop && (e != api.OK || !sameState(v, s)) {
				t.Errorf("%v and %v from %v: %v, %d", m, back, s, v, e)
			}
		}
	})
}
