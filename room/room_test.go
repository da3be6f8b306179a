package room_test

import (
	"reflect"
	"slices"
	"strings"
	"testing"

	"padlock/api"
	"padlock/room"
)

const (
	least = -1 << 63
	most  = 1<<63 - 1
)

// example is the room of the chapter's examples.
func example() api.Room {
	return api.Room{
		Places: []string{"hall", "vault"},
		Things: []api.Thing{{Name: "box", States: 2}, {Name: "door", States: 2}},
		Props:  []api.Prop{{Name: "key", When: api.Cond{{Thing: 0, State: 1}}}},
		Ways:   []api.Way{{A: 0, B: 1, When: api.Cond{{Thing: 1, State: 1}}}},
		Acts: []api.Act{
			{Name: "open", Lock: 0, Sets: []api.Set{{Thing: 0, State: 1}}},
			{Name: "turn", Lock: -1, Uses: []int{0}, Sets: []api.Set{{Thing: 1, State: 1}}, Spends: []int{0}},
		},
		Players: 1,
	}
}

const exampleText = "place hall\nplace vault\nthing box at hall states 2 start 0\nthing door at hall states 2 start 0\nprop key at hall if box=1\nway hall vault if door=1\nact open at hall lock 0 sets box=1\nact turn at hall with key sets door=1 spends key\nplayers 1\ngoal\n"

// changed returns the example, changed.
func changed(change func(*api.Room)) api.Room {
	r := example()
	change(&r)
	return r
}

// begin returns the state at the beginning of a room.
func begin(t *testing.T, r api.Room) api.State {
	t.Helper()
	s, e := room.Begin(r)
	if e != api.OK {
		t.Fatalf("Begin: %d", e)
	}
	return s
}

// bad has a room for each error of Check.
var bad = []struct {
	e      api.Errno
	change func(*api.Room)
}{
	{api.ErrMany, func(r *api.Room) { r.Ways = make([]api.Way, 17) }},
	{api.ErrPlace, func(r *api.Room) { r.Places = nil }},
	{api.ErrThing, func(r *api.Room) { r.Things[1].Place = 2 }},
	{api.ErrProp, func(r *api.Room) { r.Props[0].Place = -2 }},
	{api.ErrCond, func(r *api.Room) { r.Props[0].When[0].State = 2 }},
	{api.ErrWay, func(r *api.Room) { r.Ways[0].A = 1 }},
	{api.ErrAct, func(r *api.Room) { r.Acts[1].Lock = 8 }},
	{api.ErrAuto, func(r *api.Room) { r.Autos = []api.Auto{{Set: api.Set{Thing: 2}}} }},
	{api.ErrArg, func(r *api.Room) { r.Players = 0 }},
	{api.ErrCond, func(r *api.Room) { r.Goal = api.Cond{{Thing: 2}} }},
}

// P2.1: each error by itself, and nothing else at the bounds of what is valid.
func TestCheck(t *testing.T) {
	if e := room.Check(example()); e != api.OK {
		t.Errorf("Check of the example: %d", e)
	}
	for i, c := range bad {
		if e := room.Check(changed(c.change)); e != c.e {
			t.Errorf("%d: %d, want %d", i, e, c.e)
		}
	}
	names := []string{"a", "b", "c", "d", "e", "f", "g", "h", "i", "j", "k", "l", "m"}
	things := func(n int) (list []api.Thing) {
		for i := range n {
			list = append(list, api.Thing{Name: names[i], States: 6, Start: 5})
		}
		return list
	}
	props := func(n int) (list []api.Prop) {
		for i := range n {
			list = append(list, api.Prop{Name: names[i], Place: api.Gone})
		}
		return list
	}
	acts := func(n int) (list []api.Act) {
		for i := range n {
			list = append(list, api.Act{Name: string([]byte{byte('a' + i), 'x'}), Lock: -1})
		}
		return list
	}
	ways := slices.Repeat([]api.Way{{A: 1, B: 0}}, 17)
	autos := slices.Repeat([]api.Auto{{Set: api.Set{Thing: 1, State: 1}}}, 13)
	for i, c := range []struct {
		e      api.Errno
		change func(*api.Room)
	}{
		{api.OK, func(r *api.Room) { r.Places = append(r.Places, names[:6]...) }}, {api.ErrMany, func(r *api.Room) { r.Places = append(r.Places, names[:7]...) }},
		{api.OK, func(r *api.Room) { r.Things = things(12) }}, {api.ErrMany, func(r *api.Room) { r.Things = things(13) }},
		{api.OK, func(r *api.Room) { r.Props = props(10) }}, {api.ErrMany, func(r *api.Room) { r.Props = props(11) }},
		{api.OK, func(r *api.Room) { r.Ways = ways[:16] }}, {api.ErrMany, func(r *api.Room) { r.Ways = ways }},
		{api.OK, func(r *api.Room) { r.Acts = acts(24) }}, {api.ErrMany, func(r *api.Room) { r.Acts = acts(25) }},
		{api.OK, func(r *api.Room) { r.Autos = autos[:12] }}, {api.ErrMany, func(r *api.Room) { r.Autos = autos }},
		{api.OK, func(r *api.Room) { r.Players = 4 }}, {api.ErrArg, func(r *api.Room) { r.Players = 5 }}, {api.ErrArg, func(r *api.Room) { r.Players = -1 }},
		{api.OK, func(r *api.Room) { *r = api.Room{Places: []string{"p"}, Players: 1} }},
		{api.ErrPlace, func(r *api.Room) { r.Places[1] = "hall" }},
		{api.OK, func(r *api.Room) { r.Things[0].Name, r.Props[0].Name, r.Acts[0].Name = "hall", "hall", "hall" }},
	} {
		if e := room.Check(changed(c.change)); e != c.e {
			t.Errorf("bounds %d: %d, want %d", i, e, c.e)
		}
	}
}

// P2.1: where several errors apply, the one that is named first decides.
func TestCheckOrder(t *testing.T) {
	for i := range bad {
		for j := range i {
			r := changed(bad[i].change)
			bad[j].change(&r)
			if e := room.Check(r); e != bad[j].e {
				t.Errorf("%d and %d: %d, want %d", j, i, e, bad[j].e)
			}
		}
	}
	wrong := api.Cond{{Thing: 9}}
	for i, c := range []struct {
		e      api.Errno
		change func(*api.Room)
	}{
		{api.ErrProp, func(r *api.Room) { r.Props[0] = api.Prop{Name: "at", When: wrong} }},
		{api.ErrCond, func(r *api.Room) { r.Props = []api.Prop{{Name: "a", When: wrong}, {Name: "at"}} }},
		{api.ErrWay, func(r *api.Room) { r.Ways[0] = api.Way{When: wrong} }},
		{api.ErrCond, func(r *api.Room) { r.Ways = []api.Way{{A: 1, When: wrong}, {}} }},
		{api.ErrAct, func(r *api.Room) { r.Acts[0].Place, r.Acts[0].When = 2, wrong }},
		{api.ErrCond, func(r *api.Room) { r.Acts[0].When, r.Acts[1].Name = wrong, "open" }},
		{api.ErrAuto, func(r *api.Room) { r.Autos = []api.Auto{{Set: api.Set{State: 2}, When: wrong}} }},
		{api.ErrCond, func(r *api.Room) { r.Autos = []api.Auto{{When: wrong}, {Set: api.Set{State: 2}}} }},
		{api.ErrArg, func(r *api.Room) { r.Players, r.Goal = 0, wrong }},
	} {
		if e := room.Check(changed(c.change)); e != c.e {
			t.Errorf("in one list %d: %d, want %d", i, e, c.e)
		}
	}
}

// P2.1: names of places, things, props and acts.
func TestNames(t *testing.T) {
	good := []string{"a", "z", "abcdefghijkl", "place", "thing", "prop", "way", "act", "auto", "players", "goal", "ats", "not"}
	wrong := append([]string{"", "abcdefghijklm", "A", "aB", "a1", "a b", " a", "a ", "a\n", "a=", "ä", "`", "{", "a\x00", "\xff", strings.Repeat("a", 1000)}, reserved...)
	for _, c := range []struct {
		e    api.Errno
		name func(r *api.Room) *string
	}{
		{api.ErrPlace, func(r *api.Room) *string { return &r.Places[1] }}, {api.ErrThing, func(r *api.Room) *string { return &r.Things[0].Name }},
		{api.ErrProp, func(r *api.Room) *string { return &r.Props[0].Name }}, {api.ErrAct, func(r *api.Room) *string { return &r.Acts[1].Name }},
	} {
		for _, name := range good {
			if e := room.Check(changed(func(r *api.Room) { *c.name(r) = name })); e != api.OK {
				t.Errorf("the name %q: %d", name, e)
			}
		}
		for _, name := range wrong {
			if e := room.Check(changed(func(r *api.Room) { *c.name(r) = name })); e != c.e {
				t.Errorf("the name %q: %d, want %d", name, e, c.e)
			}
		}
	}
}

// P2.1: the fields of things, props, ways and acts.
func TestCheckFields(t *testing.T) {
	three := []api.Prop{{Name: "a"}, {Name: "b"}, {Name: "c"}}
	act := func(change func(*api.Act)) func(*api.Room) {
		return func(r *api.Room) { r.Props = three; change(&r.Acts[1]) }
	}
	sets := make([]api.Set, 7)
	for i := range sets {
		sets[i].Thing = i
	}
	for i, c := range []struct {
		e      api.Errno
		change func(*api.Room)
	}{
		{api.ErrThing, func(r *api.Room) { r.Things[1].Name = "box" }}, {api.ErrThing, func(r *api.Room) { r.Things[0].Place = -1 }},
		{api.OK, func(r *api.Room) { r.Things[0].Place = 1 }}, {api.OK, func(r *api.Room) { r.Things[0].States = 6 }},
		{api.ErrThing, func(r *api.Room) { r.Things[0].States = 1 }}, {api.ErrThing, func(r *api.Room) { r.Things[0].States = 7 }},
		{api.ErrThing, func(r *api.Room) { r.Things[0].States = least }}, {api.ErrThing, func(r *api.Room) { r.Things[0].States = most }},
		{api.OK, func(r *api.Room) { r.Things[0].Start = 1 }}, {api.ErrThing, func(r *api.Room) { r.Things[0].Start = 2 }}, {api.ErrThing, func(r *api.Room) { r.Things[0].Start = -1 }},
		{api.ErrProp, func(r *api.Room) { r.Props = append(r.Props, r.Props[0]) }}, {api.OK, func(r *api.Room) { r.Props[0].Place = -1 }},
		{api.OK, func(r *api.Room) { r.Props[0].Place = 1 }}, {api.ErrProp, func(r *api.Room) { r.Props[0].Place = 2 }}, {api.ErrProp, func(r *api.Room) { r.Props[0].Place = least }},
		{api.OK, func(r *api.Room) { r.Ways = []api.Way{{A: 1}, {B: 1}} }}, {api.ErrWay, func(r *api.Room) { r.Ways[0].A = -1 }},
		{api.ErrWay, func(r *api.Room) { r.Ways[0].A = 2 }}, {api.ErrWay, func(r *api.Room) { r.Ways[0].B = -1 }}, {api.ErrWay, func(r *api.Room) { r.Ways[0].B = 2 }}, {api.ErrWay, func(r *api.Room) { r.Ways[0].B = 0 }},
		{api.ErrAct, func(r *api.Room) { r.Acts[1].Name = "open" }}, {api.ErrAct, act(func(a *api.Act) { a.Place = 2 })}, {api.ErrAct, act(func(a *api.Act) { a.Place = -1 })},
		{api.OK, act(func(a *api.Act) { a.Lock = 7 })}, {api.ErrAct, act(func(a *api.Act) { a.Lock = -2 })}, {api.ErrAct, act(func(a *api.Act) { a.Lock = 8 })},
		{api.OK, act(func(a *api.Act) { a.Uses, a.Spends = []int{0, 2}, []int{2} })}, {api.OK, act(func(a *api.Act) { a.Uses, a.Spends = []int{0, 2}, []int{0, 2} })},
		{api.ErrAct, act(func(a *api.Act) { a.Uses = []int{0, 0} })}, {api.ErrAct, act(func(a *api.Act) { a.Uses = []int{1, 0} })},
		{api.ErrAct, act(func(a *api.Act) { a.Uses = []int{0, 3} })}, {api.ErrAct, act(func(a *api.Act) { a.Uses = []int{-1, 0} })}, {api.ErrAct, act(func(a *api.Act) { a.Uses = nil })},
		{api.ErrAct, act(func(a *api.Act) { a.Spends = []int{1} })}, {api.ErrAct, act(func(a *api.Act) { a.Spends = []int{0, 0} })}, {api.ErrAct, act(func(a *api.Act) { a.Uses, a.Spends = []int{0, 1}, []int{1, 0} })},
		{api.OK, act(func(a *api.Act) { a.Brings = []int{1, 2} })}, {api.ErrAct, act(func(a *api.Act) { a.Brings = []int{0} })}, {api.ErrAct, act(func(a *api.Act) { a.Spends, a.Brings = nil, []int{0} })},
		{api.ErrAct, act(func(a *api.Act) { a.Brings = []int{2, 1} })}, {api.ErrAct, act(func(a *api.Act) { a.Brings = []int{1, 1} })}, {api.ErrAct, act(func(a *api.Act) { a.Brings = []int{3} })}, {api.ErrAct, act(func(a *api.Act) { a.Brings = []int{-1} })},
		{api.ErrAct, act(func(a *api.Act) { a.Sets = []api.Set{{Thing: 2}} })}, {api.ErrAct, act(func(a *api.Act) { a.Sets = []api.Set{{Thing: -1}} })},
		{api.ErrAct, act(func(a *api.Act) { a.Sets[0].State = 2 })}, {api.ErrAct, act(func(a *api.Act) { a.Sets[0].State = -1 })}, {api.ErrAct, act(func(a *api.Act) { a.Sets = []api.Set{{Thing: 1}, {Thing: 0}, {Thing: 1, State: 1}} })},
		{api.OK, func(r *api.Room) { r.Things, r.Acts[0].Sets = sevenThings(), sets[:6] }}, {api.ErrAct, func(r *api.Room) { r.Things, r.Acts[0].Sets = sevenThings(), sets }},
		{api.ErrAuto, func(r *api.Room) { r.Autos = []api.Auto{{Set: api.Set{Thing: -1}}} }}, {api.ErrAuto, func(r *api.Room) { r.Autos = []api.Auto{{Set: api.Set{State: -1}}} }},
	} {
		if e := room.Check(changed(c.change)); e != c.e {
			t.Errorf("%d: %d, want %d", i, e, c.e)
		}
	}
}

func sevenThings() (list []api.Thing) {
	for _, name := range []string{"a", "b", "c", "d", "e", "f", "g"} {
		list = append(list, api.Thing{Name: name, States: 2})
	}
	return list
}

// P2.1: conditions, wherever one stands.
func TestCheckConditions(t *testing.T) {
	for i, set := range []func(r *api.Room, c api.Cond){
		func(r *api.Room, c api.Cond) { r.Props[0].When = c }, func(r *api.Room, c api.Cond) { r.Ways[0].When = c }, func(r *api.Room, c api.Cond) { r.Acts[0].When = c },
		func(r *api.Room, c api.Cond) { r.Autos = []api.Auto{{When: c}} }, func(r *api.Room, c api.Cond) { r.Goal = c },
	} {
		for _, c := range []struct {
			e    api.Errno
			cond api.Cond
		}{
			{api.OK, nil}, {api.OK, api.Cond{}}, {api.OK, make(api.Cond, 8)}, {api.ErrCond, make(api.Cond, 9)}, {api.OK, api.Cond{{Thing: 1, State: 1, Not: true}}},
			{api.ErrCond, api.Cond{{Thing: 1, State: 2, Not: true}}}, {api.ErrCond, api.Cond{{}, {Thing: 2}}}, {api.ErrCond, api.Cond{{Thing: -1}}}, {api.ErrCond, api.Cond{{State: -1}}},
		} {
			if e := room.Check(changed(func(r *api.Room) { set(r, c.cond) })); e != c.e {
				t.Errorf("%d, %v: %d, want %d", i, c.cond, e, c.e)
			}
		}
	}
}

// P2.2: what is a state of the room, and what is none.
func TestCheckState(t *testing.T) {
	r := changed(func(r *api.Room) { r.Players = 2 })
	good := api.State{Things: []int{1, 0}, Props: []int{1}, Players: []int{1, 0}}
	if e := room.CheckState(r, good); e != api.OK {
		t.Errorf("a state: %d", e)
	}
	for spot, want := range map[int]api.Errno{0: api.OK, 1: api.OK, 2: api.ErrState, -1: api.OK, -2: api.OK, -3: api.OK, -4: api.ErrState, least: api.ErrState, most: api.ErrState} {
		s := copyState(good)
		s.Props[0] = spot
		if e := room.CheckState(r, s); e != want {
			t.Errorf("the prop at %d: %d, want %d", spot, e, want)
		}
	}
	for i, change := range []func(*api.State){
		func(s *api.State) { s.Things[0] = 2 }, func(s *api.State) { s.Things[0] = -1 }, func(s *api.State) { s.Things = s.Things[:1] }, func(s *api.State) { s.Things = append(s.Things, 0) },
		func(s *api.State) { s.Props = nil }, func(s *api.State) { s.Props = append(s.Props, 0) },
		func(s *api.State) { s.Players[1] = 2 }, func(s *api.State) { s.Players[0] = -1 }, func(s *api.State) { s.Players = s.Players[:1] }, func(s *api.State) { s.Players = append(s.Players, 0) },
	} {
		s := copyState(good)
		change(&s)
		if e := room.CheckState(r, s); e != api.ErrState {
			t.Errorf("%d: %d", i, e)
		}
	}
	empty := api.Room{Places: []string{"p"}, Players: 1}
	if e := room.CheckState(empty, api.State{Things: []int{}, Props: nil, Players: []int{0}}); e != api.OK {
		t.Errorf("a state without things and props: %d", e)
	}
}

// Rules R1 and R2: the errors of the room and of the state come first, in all functions, and every other result is zero.
func TestErrorsFirst(t *testing.T) {
	good := begin(t, example())
	for i, c := range bad {
		r := changed(c.change)
		for j, results := range calls(r, api.State{Things: []int{9}}, api.Cond{{Thing: 99}}, api.Move{}, make([]api.Move, 501), 9, "") {
			if j < len(calledFirst) && !isError(results, c.e) {
				t.Errorf("room %d, %s: %v, want %d", i, calledFirst[j], results, c.e)
			}
		}
	}
	for i, change := range []func(*api.State){func(s *api.State) { s.Things[1] = 2 }, func(s *api.State) { s.Props[0] = -3 }, func(s *api.State) { s.Players = nil }} {
		s := copyState(good)
		change(&s)
		for j, results := range calls(example(), s, api.Cond{{Thing: 99}}, api.Move{}, make([]api.Move, 501), 9, "") {
			if j < withState && !isError(results, api.ErrState) {
				t.Errorf("state %d, %s: %v", i, calledFirst[j], results)
			}
		}
	}
}

// calledFirst are the functions whose first errors are those of the room; those of a state come before the others.
var calledFirst = []string{"CheckState", "Holds", "Done", "Settle", "Legal", "Step", "Run", "Look", "Show", "Check", "Begin", "Format"}

const withState = 9

// calls returns the results of all functions.
func calls(r api.Room, s api.State, c api.Cond, m api.Move, moves []api.Move, player int, text string) [][]any {
	var all [][]any
	add := func(results ...any) { all = append(all, results) }
	add(room.CheckState(r, s))
	is, e := room.Holds(r, s, c)
	add(is, e)
	is, e = room.Done(r, s)
	add(is, e)
	end, e := room.Settle(r, s)
	add(end, e)
	legal, e := room.Legal(r, s)
	add(legal, e)
	end, e = room.Step(r, s, m)
	add(end, e)
	end, at, e := room.Run(r, s, moves)
	add(end, at, e)
	things, props, players, e := room.Look(r, s, player)
	add(things, props, players, e)
	show, e := room.Show(r, s)
	add(show, e)
	add(room.Check(r))
	end, e = room.Begin(r)
	add(end, e)
	written, e := room.Format(r)
	add(written, e)
	read, line, e := room.Parse(text)
	add(read, line, e)
	add(room.Same(r, r), room.Same(r, read))
	return all
}

// isError reports whether results are an error, and nothing else.
func isError(results []any, e api.Errno) bool {
	last := len(results) - 1
	for _, x := range results[:last] {
		if !reflect.ValueOf(x).IsZero() {
			return false
		}
	}
	return results[last] == e
}

// P2.3: conditions in a state.
func TestHoldsAndDone(t *testing.T) {
	s := begin(t, example())
	s.Things = []int{1, 0}
	for i, c := range []struct {
		cond api.Cond
		is   bool
		e    api.Errno
	}{
		{nil, true, api.OK}, {api.Cond{}, true, api.OK}, {api.Cond{{Thing: 0, State: 1}}, true, api.OK}, {api.Cond{{Thing: 0, State: 0}}, false, api.OK},
		{api.Cond{{Thing: 0, State: 1, Not: true}}, false, api.OK}, {api.Cond{{Thing: 0, State: 0, Not: true}}, true, api.OK},
		{api.Cond{{Thing: 0, State: 1}, {Thing: 1, State: 1, Not: true}}, true, api.OK}, {api.Cond{{Thing: 0, State: 1}, {Thing: 1, State: 1}}, false, api.OK}, {api.Cond{{Thing: 1, State: 1}, {Thing: 0, State: 1}}, false, api.OK},
		{make(api.Cond, 8), false, api.OK}, {make(api.Cond, 9), false, api.ErrCond}, {api.Cond{{Thing: 2}}, false, api.ErrCond}, {api.Cond{{Thing: -1}}, false, api.ErrCond}, {api.Cond{{Thing: 0, State: 1}, {State: 2, Not: true}}, false, api.ErrCond},
	} {
		if is, e := room.Holds(example(), s, c.cond); is != c.is || e != c.e {
			t.Errorf("%d: Holds = %v, %d", i, is, e)
		}
		is, e := room.Done(changed(func(r *api.Room) { r.Goal = c.cond }), s)
		if is != c.is || e != c.e {
			t.Errorf("%d: Done = %v, %d", i, is, e)
		}
	}
}

// P2.4: the beginning, with and without autos.
func TestBegin(t *testing.T) {
	r := changed(func(r *api.Room) {
		r.Things[1].Start, r.Players = 1, 3
		r.Props = append(r.Props, api.Prop{Name: "coin", Place: api.Gone}, api.Prop{Name: "map", Place: 1})
	})
	if s, e := room.Begin(r); e != api.OK || !sameState(s, api.State{Things: []int{0, 1}, Props: []int{0, -1, 1}, Players: []int{0, 0, 0}}) {
		t.Errorf("Begin = %v, %d", s, e)
	}
	r.Autos = []api.Auto{{When: api.Cond{{Thing: 1, State: 1}}, Set: api.Set{Thing: 0, State: 1}}, {When: api.Cond{{Thing: 0, State: 1}}, Set: api.Set{Thing: 1}}}
	if s, e := room.Begin(r); e != api.OK || !slices.Equal(s.Things, []int{1, 0}) {
		t.Errorf("Begin with autos = %v, %d", s, e)
	}
	r.Autos[1] = api.Auto{When: api.Cond{{Thing: 0, State: 1}}, Set: api.Set{Thing: 0}}
	if s, e := room.Begin(r); e != api.ErrAuto || !reflect.DeepEqual(s, api.State{}) {
		t.Errorf("Begin that does not settle = %v, %d", s, e)
	}
}

// long sets things 101 times before it settles.
const long = `place p
thing a at p states 4 start 0
thing b at p states 4 start 0
thing c at p states 3 start 0
thing d at p states 3 start 0
thing e at p states 3 start 0
auto b=1 if b=2 c!1
auto c=1 if c!1 a=2
auto e=1 if e=0 c=1 b=1 a=3 d!1
auto a=1 if a!3 b!3 b!2
auto b=3 if c!0 b!2 d!1
auto d=1 if b!2
auto a=2 if c!1 a=3 c!0
auto b=2 if b=3
auto a=3 if b!2 e!2 a=1
auto e=2 if e=1 b!2 a=3 a!2 b=1
auto d=2 if c=1
auto c=2 if b!1
players 1
goal
`

// P2.4: 100 settings are enough to settle, and one more is not.
func TestLongSettling(t *testing.T) {
	r, line, e := room.Parse(long)
	if e != api.OK {
		t.Fatalf("Parse: line %d, %d", line, e)
	}
	if s, e := room.Begin(r); e != api.ErrAuto || !reflect.DeepEqual(s, api.State{}) {
		t.Errorf("Begin that settles behind 101 settings = %v, %d", s, e)
	}
	s := api.State{Things: []int{0, 0, 0, 0, 0}, Players: []int{0}}
	if u, e := room.Settle(r, s); e != api.ErrAuto || !reflect.DeepEqual(u, api.State{}) {
		t.Errorf("Settle behind 101 settings = %v, %d", u, e)
	}
	s.Things[0] = 1 // what the first setting does
	u, e := room.Settle(r, s)
	if e != api.OK {
		t.Fatalf("Settle behind 100 settings: %d", e)
	}
	if v, e := room.Settle(r, u); e != api.OK || !sameState(u, v) {
		t.Errorf("Settle of %v = %v, %d", u, v, e)
	}
}

// P2.4: of several autos the first one sets its thing; an auto whose thing is in its state does nothing.
func TestSettle(t *testing.T) {
	for i, c := range []struct{ autos, from, want string }{
		{"", "01", "01"}, {"auto box=0\nauto box=1\n", "00", ""}, {"auto door=1 if box=0\nauto box=1 if door=0\n", "00", "01"}, {"auto box=1 if door=0\nauto door=1 if box=0\n", "00", "10"},
		{"auto box=1\nauto door=1 if box=1\n", "00", "11"}, {"auto door=1 if box=1\nauto box=1\n", "00", "11"}, {"auto door=0 if box=1\nauto door=1 if box=1\n", "10", ""}, {"auto door=0 if box=1\nauto door=1 if box=1\n", "01", "01"},
		{"auto box=1 if box=1\n", "10", "10"},
	} {
		r, _, e := room.Parse(strings.Replace(exampleText, "players", c.autos+"players", 1))
		if e != api.OK {
			t.Fatalf("%d: Parse: %d", i, e)
		}
		states := func(s string) []int { return []int{int(s[0] - '0'), int(s[1] - '0')} }
		s, e := room.Settle(r, api.State{Things: states(c.from), Props: []int{-2}, Players: []int{1}})
		if c.want == "" {
			if e != api.ErrAuto || !reflect.DeepEqual(s, api.State{}) {
				t.Errorf("%d: Settle = %v, %d", i, s, e)
			}
		} else if e != api.OK || !sameState(s, api.State{Things: states(c.want), Props: []int{-2}, Players: []int{1}}) {
			t.Errorf("%d: Settle = %v, %d", i, s, e)
		}
	}
}
