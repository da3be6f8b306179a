package play_test

import (
	"reflect"
	"slices"
	"strings"
	"testing"

	"padlock/api"
	"padlock/play"
	"padlock/room"
)

const (
	least = -1 << 63
	most  = 1<<63 - 1
)

const roomText = "place hall\nplace vault\nthing box at hall states 2 start 0\nthing door at hall states 2 start 0\nprop key at hall if box=1\nway hall vault if door=1\nact open at hall lock 0 sets box=1\nact turn at hall with key sets door=1 spends key\nplayers 1\ngoal door=1\n"

const exampleText = roomText + "codelock 2 4 31\nnote leaf at hall lock 0 sum 0 1 4\nnote back at hall if box=0 lock 0 less 1 0\nnote card at vault\ntries 1\n"

// example is the game of the chapter's examples.
func example() api.Game {
	return api.Game{
		Room: api.Room{
			Places: []string{"hall", "vault"},
			Things: []api.Thing{{Name: "box", States: 2}, {Name: "door", States: 2}},
			Props:  []api.Prop{{Name: "key", When: api.Cond{{Thing: 0, State: 1}}}},
			Ways:   []api.Way{{A: 0, B: 1, When: api.Cond{{Thing: 1, State: 1}}}},
			Acts: []api.Act{
				{Name: "open", Lock: 0, Sets: []api.Set{{Thing: 0, State: 1}}},
				{Name: "turn", Lock: -1, Uses: []int{0}, Sets: []api.Set{{Thing: 1, State: 1}}, Spends: []int{0}},
			},
			Players: 1,
			Goal:    api.Cond{{Thing: 1, State: 1}},
		},
		Locks: []api.CodeLock{{Wheels: 2, Symbols: 4}},
		Codes: [][]int{{3, 1}},
		Notes: []api.Note{
			{Name: "leaf", Clue: api.Clue{Kind: api.Sum, A: 0, B: 1, N: 4}},
			{Name: "back", When: api.Cond{{Thing: 0, State: 0}}, Clue: api.Clue{Kind: api.Less, A: 1, B: 0}},
			{Name: "card", Place: 1, Lock: -1},
		},
		Tries: 1,
	}
}

// The moves of the example.
var (
	out  = api.Move{Kind: api.Go}
	take = api.Move{Kind: api.Take}
	drop = api.Move{Kind: api.Drop}
	open = api.Move{Kind: api.Do}
	turn = api.Move{Kind: api.Do, Number: 1}
)

// changed returns the example, changed.
func changed(changes ...func(*api.Game)) api.Game {
	g := example()
	for _, change := range changes {
		change(&g)
	}
	return g
}

// begin returns the position at the beginning of a game.
func begin(t *testing.T, g api.Game) api.Position {
	t.Helper()
	p, e := play.Begin(g)
	if e != api.OK {
		t.Fatalf("Begin: %d", e)
	}
	return p
}

// The example of the chapter.
func TestExample(t *testing.T) {
	g := example()
	p := begin(t, g)
	for i, c := range []struct {
		can   []api.Move
		move  api.Move
		reads []int
		read  []bool
	}{
		{[]api.Move{open}, open, nil, []bool{true, true, false}},
		{[]api.Move{take, open}, take, nil, []bool{true, true, false}},
		{[]api.Move{drop, open, turn}, turn, nil, []bool{true, true, false}},
		{[]api.Move{out, open}, out, []int{2}, []bool{true, true, false}},
		{[]api.Move{out}, out, nil, []bool{true, true, true}},
		{[]api.Move{out, open}, open, nil, []bool{true, true, true}},
	} {
		if !slices.Equal(p.Read, c.read) {
			t.Errorf("%d: read is %v", i, p.Read)
		}
		if l, e := play.Can(g, p); e != api.OK || !slices.Equal(l, c.can) {
			t.Errorf("%d: Can = %v, %d", i, l, e)
		}
		if l, e := play.Reads(g, p, c.move); e != api.OK || !slices.Equal(l, c.reads) {
			t.Errorf("%d: Reads = %v, %d", i, l, e)
		}
		if n, e := play.Readings(g, p, 0); n != 1 || e != api.OK {
			t.Errorf("%d: Readings = %d, %d", i, n, e)
		}
		p, _ = play.Step(g, p, c.move)
	}
	p.Read[1] = false
	if n, e := play.Readings(g, p, 0); n != 3 || e != api.OK {
		t.Errorf("Readings of the leaf = %d, %d", n, e)
	}
	if l, e := play.Twins(g); len(l) != 0 || e != api.OK {
		t.Errorf("Twins = %v, %d", l, e)
	}
	if l, e := play.Needed(g, 0); !slices.Equal(l, []int{0, 1}) || e != api.OK {
		t.Errorf("Needed = %v, %d", l, e)
	}
}

// bad has a game for each error of Check, in the order of the chapter. Each change leaves the others possible.
var bad = []struct {
	e      api.Errno
	change func(*api.Game)
}{
	{api.ErrThing, func(g *api.Game) { g.Room.Things[1].Place = 2 }},
	{api.ErrCond, func(g *api.Game) { g.Room.Goal = api.Cond{{Thing: 2}} }},
	{api.ErrMany, func(g *api.Game) { g.Notes = append(g.Notes, make([]api.Note, 14)...) }},
	{api.ErrLock, func(g *api.Game) { g.Locks[0].Wheels = 5 }},
	{api.ErrCode, func(g *api.Game) { g.Codes[0] = []int{3, 4} }},
	{api.ErrAct, func(g *api.Game) { g.Room.Acts[1].Lock = 1 }},
	{api.ErrNote, func(g *api.Game) { g.Notes[0].Clue.N = 5 }},
	{api.ErrCond, func(g *api.Game) { g.Notes[1].When[0].State = 2 }},
	{api.ErrNote, func(g *api.Game) { g.Notes[2].Place = 2 }},
	{api.ErrArg, func(g *api.Game) { g.Tries = 101 }},
}

// P4.1: each error by itself, and of two the one that is named first.
func TestCheck(t *testing.T) {
	if e := play.Check(example()); e != api.OK {
		t.Errorf("Check of the example: %d", e)
	}
	for i, c := range bad {
		for j, d := range bad[:i] {
			if e := play.Check(changed(c.change, d.change)); e != d.e {
				t.Errorf("%d and %d: %d, want %d", j, i, e, d.e)
			}
		}
		if e := play.Check(changed(c.change)); e != c.e {
			t.Errorf("%d: %d, want %d", i, e, c.e)
		}
	}
}

// P4.1: all errors of a room come first, also those that come from its locks.
func TestCheckRoom(t *testing.T) {
	worst := func(g *api.Game) { g.Locks, g.Notes, g.Tries = make([]api.CodeLock, 9), make([]api.Note, 17), 0 }
	for e, change := range map[api.Errno]func(*api.Game){
		api.ErrMany:  func(g *api.Game) { g.Room.Ways = make([]api.Way, 17) },
		api.ErrPlace: func(g *api.Game) { g.Room.Places[0] = "at" },
		api.ErrThing: func(g *api.Game) { g.Room.Things[0].States = 1 },
		api.ErrProp:  func(g *api.Game) { g.Room.Props[0].Place = -2 },
		api.ErrWay:   func(g *api.Game) { g.Room.Ways[0].B = 0 },
		api.ErrCond:  func(g *api.Game) { g.Room.Ways[0].When[0].Thing = 2 },
		api.ErrAct:   func(g *api.Game) { g.Room.Acts[0].Lock = 8 },
		api.ErrAuto:  func(g *api.Game) { g.Room.Autos = []api.Auto{{Set: api.Set{Thing: 2}}} },
		api.ErrArg:   func(g *api.Game) { g.Room.Players = 5 },
	} {
		if got := play.Check(changed(change, worst)); got != e {
			t.Errorf("%d, want %d", got, e)
		}
	}
	if e := play.Check(changed(worst)); e != api.ErrMany {
		t.Errorf("%d, want %d", e, api.ErrMany)
	}
}

// locked returns the example with so many locks like its own.
func locked(g *api.Game, n int) {
	g.Locks, g.Codes = slices.Repeat(g.Locks[:1], n), slices.Repeat(g.Codes[:1], n)
}

// P4.1: the limits, at and above their bounds.
func TestCheckBounds(t *testing.T) {
	notes := func(n int) func(*api.Game) {
		return func(g *api.Game) {
			g.Notes = nil
			for i := range n {
				g.Notes = append(g.Notes, api.Note{Name: string(rune('a' + i)), Lock: -1})
			}
		}
	}
	for i, c := range []struct {
		e      api.Errno
		change func(*api.Game)
	}{
		{api.OK, func(g *api.Game) { locked(g, 8) }}, {api.ErrMany, func(g *api.Game) { locked(g, 9) }},
		{api.ErrMany, func(g *api.Game) { locked(g, 9); g.Codes = nil }},
		{api.OK, notes(0)}, {api.OK, notes(16)}, {api.ErrMany, notes(17)},
		{api.OK, func(g *api.Game) { g.Tries = 100 }}, {api.ErrArg, func(g *api.Game) { g.Tries = 0 }}, {api.ErrArg, func(g *api.Game) { g.Tries = -1 }}, {api.ErrArg, func(g *api.Game) { g.Tries = most }}, {api.ErrArg, func(g *api.Game) { g.Tries = least }},
		{api.OK, func(g *api.Game) { *g = api.Game{Room: api.Room{Places: []string{"p"}, Players: 1}, Tries: 1} }},
	} {
		if e := play.Check(changed(c.change)); e != c.e {
			t.Errorf("%d: %d, want %d", i, e, c.e)
		}
	}
}

// P4.1: locks and their codes, and the locks of acts.
func TestCheckLocks(t *testing.T) {
	wide := api.CodeLock{Wheels: 4, Symbols: 10}
	for i, c := range []struct {
		e      api.Errno
		change func(*api.Game)
	}{
		{api.ErrLock, func(g *api.Game) { g.Locks[0].Wheels = 0 }}, {api.ErrLock, func(g *api.Game) { g.Locks[0].Symbols = 11 }}, {api.ErrLock, func(g *api.Game) { g.Locks = append(g.Locks, api.CodeLock{}) }},
		{api.ErrLock, func(g *api.Game) { g.Codes, g.Locks = nil, append(g.Locks, api.CodeLock{Wheels: 1, Symbols: 1}) }},
		{api.OK, func(g *api.Game) { g.Locks, g.Codes = append(g.Locks, wide), append(g.Codes, []int{9, 9, 9, 9}) }},
		{api.ErrCode, func(g *api.Game) { g.Codes = nil }}, {api.ErrCode, func(g *api.Game) { g.Codes = append(g.Codes, g.Codes[0]) }}, {api.ErrCode, func(g *api.Game) { g.Locks = append(g.Locks, wide) }},
		{api.ErrCode, func(g *api.Game) { g.Codes[0] = nil }}, {api.ErrCode, func(g *api.Game) { g.Codes[0] = []int{3} }}, {api.ErrCode, func(g *api.Game) { g.Codes[0] = []int{3, 1, 0} }},
		{api.ErrCode, func(g *api.Game) { g.Codes[0][1] = 4 }}, {api.ErrCode, func(g *api.Game) { g.Codes[0][0] = -1 }}, {api.ErrCode, func(g *api.Game) { g.Locks, g.Codes = append(g.Locks, wide), append(g.Codes, []int{9, 9, 9, 10}) }},
		{api.ErrCode, func(g *api.Game) { g.Locks, g.Codes = append(g.Locks, wide), [][]int{{9, 9, 9, 9}, {3, 1}} }},
		{api.OK, func(g *api.Game) { locked(g, 8); g.Room.Acts[1].Lock = 7 }}, {api.ErrAct, func(g *api.Game) { locked(g, 7); g.Room.Acts[1].Lock = 7 }}, {api.ErrAct, func(g *api.Game) { g.Locks, g.Codes, g.Notes = nil, nil, nil }},
		{api.OK, func(g *api.Game) { g.Locks, g.Codes, g.Notes, g.Room.Acts = nil, nil, nil, nil }}, {api.OK, func(g *api.Game) { g.Room.Acts[1].Lock = 0 }},
	} {
		if e := play.Check(changed(c.change)); e != c.e {
			t.Errorf("%d: %d, want %d", i, e, c.e)
		}
	}
}

// P4.1: notes have names of their own, stand somewhere, and tell the truth.
func TestCheckNotes(t *testing.T) {
	wrong := api.Cond{{Thing: 2}}
	at := func(a, n int, not bool) api.Clue { return api.Clue{Kind: api.At, A: a, N: n, Not: not} }
	for i, c := range []struct {
		e      api.Errno
		change func(n []api.Note)
	}{
		{api.ErrNote, func(n []api.Note) { n[1].Name = "leaf" }}, {api.ErrNote, func(n []api.Note) { n[2].Name = "leaf" }}, {api.OK, func(n []api.Note) { n[0].Name, n[1].Name, n[2].Name = "hall", "box", "open" }},
		{api.OK, func(n []api.Note) { n[0].Place = 1 }}, {api.ErrNote, func(n []api.Note) { n[0].Place = -1 }}, {api.ErrNote, func(n []api.Note) { n[0].Place = 2 }}, {api.ErrNote, func(n []api.Note) { n[0].Place = least }},
		{api.ErrNote, func(n []api.Note) { n[0].Lock = -1 }}, {api.ErrNote, func(n []api.Note) { n[0].Lock = 1 }}, {api.ErrNote, func(n []api.Note) { n[0].Lock = -2 }}, {api.ErrNote, func(n []api.Note) { n[0].Lock = most }}, {api.ErrNote, func(n []api.Note) { n[2].Lock = 0 }}, {api.ErrNote, func(n []api.Note) { n[2].Lock = -2 }},
		{api.ErrNote, func(n []api.Note) { n[2].Clue.Kind = 1 }}, {api.ErrNote, func(n []api.Note) { n[2].Clue.A = 1 }}, {api.ErrNote, func(n []api.Note) { n[2].Clue.B = 1 }}, {api.ErrNote, func(n []api.Note) { n[2].Clue.N = -1 }}, {api.ErrNote, func(n []api.Note) { n[2].Clue.M = 1 }}, {api.ErrNote, func(n []api.Note) { n[2].Clue.Not = true }}, {api.ErrNote, func(n []api.Note) { n[2].Clue.Guess = []int{0} }}, {api.OK, func(n []api.Note) { n[2].Clue.Guess = []int{} }},
		{api.OK, func(n []api.Note) { n[0].Clue = at(0, 3, false) }}, {api.ErrNote, func(n []api.Note) { n[0].Clue = at(0, 3, true) }}, {api.OK, func(n []api.Note) { n[0].Clue = at(0, 2, true) }}, {api.ErrNote, func(n []api.Note) { n[0].Clue = at(0, 4, true) }}, {api.ErrNote, func(n []api.Note) { n[0].Clue = at(2, 0, true) }}, {api.ErrNote, func(n []api.Note) { n[0].Clue = api.Clue{} }}, {api.ErrNote, func(n []api.Note) { n[0].Clue = api.Clue{Not: true} }},
		{api.OK, func(n []api.Note) { n[0].Clue = api.Clue{Kind: api.Right, N: 1, M: 0, Guess: []int{3, 3}} }}, {api.ErrNote, func(n []api.Note) { n[0].Clue = api.Clue{Kind: api.Right, N: 1, M: 0, Guess: []int{3, 3, 3}} }},
		{api.OK, func(n []api.Note) { n[0].When = make(api.Cond, 8) }}, {api.ErrCond, func(n []api.Note) { n[0].When = make(api.Cond, 9) }}, {api.ErrCond, func(n []api.Note) { n[2].When = wrong }}, {api.ErrCond, func(n []api.Note) { n[2].When = api.Cond{{}, {Thing: -1}} }}, {api.ErrCond, func(n []api.Note) { n[2].When = api.Cond{{State: 2, Not: true}} }}, {api.OK, func(n []api.Note) { n[2].When = api.Cond{{State: 1, Not: true}} }}, {api.OK, func(n []api.Note) { n[2].When = api.Cond{} }},
		// Of one note the place counts before the condition, but a condition before the place of the next note.
		{api.ErrNote, func(n []api.Note) { n[0].Place, n[0].When = 2, wrong }}, {api.ErrNote, func(n []api.Note) { n[0].Clue.N, n[0].When = 5, wrong }}, {api.ErrCond, func(n []api.Note) { n[0].When, n[1].Name = wrong, "leaf" }}, {api.ErrNote, func(n []api.Note) { n[0].Lock, n[1].When = 1, wrong }},
	} {
		if e := play.Check(changed(func(g *api.Game) { c.change(g.Notes) })); e != c.e {
			t.Errorf("%d: %d, want %d", i, e, c.e)
		}
	}
	for _, name := range []string{"a", "z", "abcdefghijkl", "note", "tries", "codelock", "not", "sum", "goal"} {
		if e := play.Check(changed(func(g *api.Game) { g.Notes[0].Name = name })); e != api.OK {
			t.Errorf("the name %q: %d", name, e)
		}
	}
	for _, name := range append([]string{"", "abcdefghijklm", "A", "a1", "a b", " a", "a\n", "ä", "`", "{", "\xff", strings.Repeat("a", 1000)}, reserved...) {
		if e := play.Check(changed(func(g *api.Game) { g.Notes[0].Name = name })); e != api.ErrNote {
			t.Errorf("the name %q: %d", name, e)
		}
	}
}

// The functions in the order of calls: first those with a position, then those with a game alone.
var called = []string{"Can", "Step", "Run", "Clues", "Readings", "Opens", "Reads", "Begin", "Twins", "Needed", "Format", "Check", "Parse", "Same"}

const (
	withPosition = 7
	withGame     = 12
)

// calls returns the results of all functions.
func calls(g api.Game, p api.Position, m api.Move, moves []api.Move, lock int, text string) [][]any {
	var all [][]any
	add := func(results ...any) { all = append(all, results) }
	can, e := play.Can(g, p)
	add(can, e)
	end, e := play.Step(g, p, m)
	add(end, e)
	end, at, e := play.Run(g, p, moves)
	add(end, at, e)
	list, e := play.Clues(g, p, lock)
	add(list, e)
	n, e := play.Readings(g, p, lock)
	add(n, e)
	opens, e := play.Opens(g, p)
	add(opens, e)
	list, e = play.Reads(g, p, m)
	add(list, e)
	end, e = play.Begin(g)
	add(end, e)
	list, e = play.Twins(g)
	add(list, e)
	list, e = play.Needed(g, lock)
	add(list, e)
	written, e := play.Format(g)
	add(written, e)
	add(play.Check(g))
	read, line, e := play.Parse(text)
	add(read, line, e)
	add(play.Same(g, g), play.Same(g, read))
	return all
}

// isError reports whether results are an error, and nothing else.
func isError(results []any, e api.Errno) bool {
	last := len(results) - 1
	for _, x := range results[:last] {
		if !reflect.ValueOf(x).IsZero() {
			return false
		}
	}
	return results[last] == e
}

// Rules R1 and R2: the errors of the game come first, then those of the position, then those of a lock; every other result is zero.
func TestErrorsFirst(t *testing.T) {
	for i, c := range bad {
		for j, results := range calls(changed(c.change), api.Position{}, api.Move{}, make([]api.Move, 501), 9, "") {
			if j < withGame && !isError(results, c.e) {
				t.Errorf("game %d, %s: %v, want %d", i, called[j], results, c.e)
			}
		}
	}
	for i, change := range []func(*api.Position){
		func(p *api.Position) { p.State.Things[1] = 2 }, func(p *api.Position) { p.State.Props[0] = -3 }, func(p *api.Position) { p.State.Players = nil }, func(p *api.Position) { p.State = api.State{} },
		func(p *api.Position) { p.Read = nil }, func(p *api.Position) { p.Read = p.Read[:2] }, func(p *api.Position) { p.Read = append(p.Read, true) },
	} {
		p := begin(t, example())
		change(&p)
		for j, results := range calls(example(), p, api.Move{}, make([]api.Move, 501), 9, "") {
			if j < withPosition && !isError(results, api.ErrState) {
				t.Errorf("position %d, %s: %v", i, called[j], results)
			}
		}
	}
	for _, lock := range []int{-1, 1, least, most} {
		for j, results := range calls(example(), begin(t, example()), open, nil, lock, "") {
			if name := called[j]; (name == "Clues" || name == "Readings" || name == "Needed") && !isError(results, api.ErrArg) {
				t.Errorf("lock %d, %s: %v", lock, name, results)
			}
		}
	}
}

// unsettled never settles while the box is open.
func unsettled(g *api.Game) {
	g.Room.Autos = []api.Auto{{When: api.Cond{{State: 1}}, Set: api.Set{Thing: 1}}, {When: api.Cond{{State: 1}}, Set: api.Set{Thing: 1, State: 1}}}
}

// P4.2: what is read at the beginning.
func TestBegin(t *testing.T) {
	for i, c := range []struct {
		change func(*api.Game)
		read   []bool
	}{
		{func(g *api.Game) {}, []bool{true, true, false}},
		{func(g *api.Game) { g.Room.Players = 4 }, []bool{true, true, false}},
		{func(g *api.Game) { g.Notes = nil }, nil},
		{func(g *api.Game) { g.Room.Things[0].Start = 1 }, []bool{true, false, false}},
		{func(g *api.Game) { g.Notes[1].When = append(g.Notes[1].When, api.Lit{Thing: 1, State: 1}) }, []bool{true, false, false}},
		{func(g *api.Game) { g.Notes[1].When[0].Not = true }, []bool{true, false, false}},
		{func(g *api.Game) { g.Notes[2].Place, g.Notes[0].Place = 0, 1 }, []bool{false, true, true}},
		// What is read is what can be read when all has settled.
		{func(g *api.Game) { g.Room.Autos = []api.Auto{{Set: api.Set{State: 1}}} }, []bool{true, false, false}},
	} {
		g := changed(c.change)
		p := begin(t, g)
		s, _ := room.Begin(g.Room)
		if !samePosition(p, api.Position{State: s, Read: c.read}) {
			t.Errorf("%d: Begin = %v, want %v", i, p, c.read)
		}
	}
	p, e := play.Begin(changed(unsettled, func(g *api.Game) { g.Room.Things[0].Start = 1 }))
	if e != api.ErrAuto || !reflect.DeepEqual(p, api.Position{}) {
		t.Errorf("Begin that does not settle = %v, %d", p, e)
	}
}

// P4.3 and P4.4: a lock is open with as many readings as tries, and not with one more; other moves are free.
func TestLocksAndMoves(t *testing.T) {
	p := begin(t, example())
	p.State.Things[0], p.State.Props[0] = 1, -2
	for i, c := range []struct {
		tries int
		read  []bool
		open  bool
	}{
		{1, []bool{true, true, false}, true}, {1, []bool{true, false, false}, false}, {2, []bool{true, false, true}, false}, {3, []bool{true, false, false}, true},
		{1, []bool{false, true, false}, false}, {5, []bool{false, true, false}, false}, {6, []bool{false, true, false}, true}, {15, []bool{false, false, false}, false}, {16, []bool{false, false, false}, true}, {100, []bool{false, false, true}, true},
	} {
		g := changed(func(g *api.Game) { g.Tries = c.tries })
		p.Read = c.read
		want := []api.Move{drop, turn}
		if c.open {
			want = []api.Move{drop, open, turn}
		}
		if l, e := play.Can(g, p); e != api.OK || !slices.Equal(l, want) {
			t.Errorf("%d: Can = %v, %d", i, l, e)
		}
		if end, e := play.Step(g, p, open); (e == api.OK) != c.open || e != api.OK && (e != api.ErrMove || !reflect.DeepEqual(end, api.Position{})) {
			t.Errorf("%d: Step = %v, %d", i, end, e)
		}
		if l, e := play.Opens(g, p); e != api.OK || !slices.Equal(l, []bool{c.open}) {
			t.Errorf("%d: Opens = %v, %d", i, l, e)
		}
	}
}

// P4.3, P4.4 and P4.5: a move behind which the state does not settle is not possible.
func TestUnsettled(t *testing.T) {
	g := changed(unsettled)
	p := begin(t, g)
	if l, e := play.Can(g, p); e != api.OK || len(l) != 0 {
		t.Errorf("Can = %v, %d", l, e)
	}
	if end, e := play.Step(g, p, open); e != api.ErrMove || !reflect.DeepEqual(end, api.Position{}) {
		t.Errorf("Step = %v, %d", end, e)
	}
	if l, e := play.Reads(g, p, open); e != api.ErrMove || l != nil {
		t.Errorf("Reads = %v, %d", l, e)
	}
	if end, at, e := play.Run(g, p, []api.Move{open, open}); e != api.ErrMove || at != 0 || !reflect.DeepEqual(end, api.Position{}) {
		t.Errorf("Run = %v, %d, %d", end, at, e)
	}
}

// P4.5: playing moves, and the first one that is not possible.
func TestRun(t *testing.T) {
	g := example()
	p := begin(t, g)
	if end, at, e := play.Run(g, p, []api.Move{open, take, turn, out}); e != api.OK || at != 0 || !samePosition(end, api.Position{State: api.State{Things: []int{1, 1}, Props: []int{-1}, Players: []int{1}}, Read: []bool{true, true, true}}) {
		t.Errorf("Run = %v, %d, %d", end, at, e)
	}
	some := p
	some.Read = []bool{false, true, false}
	for _, none := range [][]api.Move{nil, {}} {
		if end, at, e := play.Run(g, some, none); e != api.OK || at != 0 || !samePosition(end, some) {
			t.Errorf("Run of no moves = %v, %d, %d", end, at, e)
		}
	}
	opens := slices.Repeat([]api.Move{open}, 501)
	if end, at, e := play.Run(g, p, opens[:500]); e != api.OK || at != 0 || end.State.Things[0] != 1 {
		t.Errorf("Run of 500 moves = %v, %d, %d", end, at, e)
	}
	for i, c := range []struct {
		p     api.Position
		moves []api.Move
		at    int
		e     api.Errno
	}{
		{p, opens, 0, api.ErrMany}, {p, make([]api.Move, 501), 0, api.ErrMany}, {p, []api.Move{turn, turn}, 0, api.ErrMove}, {p, []api.Move{open, turn, open}, 1, api.ErrMove}, {p, append(slices.Clone(opens[:499]), turn), 499, api.ErrMove}, {p, []api.Move{open, {Kind: 9}}, 1, api.ErrMove},
		{some, []api.Move{open}, 0, api.ErrMove},
	} {
		if end, at, e := play.Run(g, c.p, c.moves); at != c.at || e != c.e || !reflect.DeepEqual(end, api.Position{}) {
			t.Errorf("%d: Run = %v, %d, %d, want %d, %d", i, end, at, e, c.at, c.e)
		}
	}
}

// P4.4 and P4.8: notes are read behind a move: what can be read before it only is not; what has been read is not read again; each player reads for all.
func TestReading(t *testing.T) {
	g := changed(func(g *api.Game) {
		g.Room.Players, g.Room.Ways[0].When, g.Room.Acts[0].Lock = 2, nil, -1
		g.Notes = []api.Note{{Name: "a", Lock: -1, When: api.Cond{{State: 0}}}, {Name: "b", Lock: -1, When: api.Cond{{State: 1}}}, {Name: "c", Lock: -1, Place: 1}, {Name: "d", Lock: -1}, {Name: "e", Lock: -1, Place: 1, When: api.Cond{{State: 0}, {Thing: 1, State: 1, Not: true}}}}
	})
	second := api.Move{Player: 1, Kind: api.Go}
	state := func(box, one, two int) api.State {
		return api.State{Things: []int{box, 0}, Props: []int{0}, Players: []int{one, two}}
	}
	for i, c := range []struct {
		s     api.State
		read  string
		move  api.Move
		after string
		reads []int
	}{
		{state(0, 0, 0), ".....", open, ".x.x.", []int{1, 3}},
		{state(0, 0, 0), "x..x.", open, "xx.x.", []int{1}},
		{state(0, 0, 0), ".....", out, "x.xxx", []int{0, 2, 3, 4}},
		{state(0, 0, 0), "x..x.", second, "x.xxx", []int{2, 4}},
		{state(0, 0, 1), "....x", second, "x..xx", []int{0, 3}},
		{state(1, 0, 1), ".....", out, "..x..", []int{2}},
		{state(1, 1, 1), "xxxxx", out, "xxxxx", nil},
		{state(1, 1, 1), "..x..", out, ".xxx.", []int{1, 3}},
	} {
		read := func(s string) (l []bool) {
			for _, b := range s {
				l = append(l, b == 'x')
			}
			return l
		}
		p := api.Position{State: c.s, Read: read(c.read)}
		if l, e := play.Reads(g, p, c.move); e != api.OK || !slices.Equal(l, c.reads) {
			t.Errorf("%d: Reads = %v, %d", i, l, e)
		}
		if end, e := play.Step(g, p, c.move); e != api.OK || !slices.Equal(end.Read, read(c.after)) {
			t.Errorf("%d: Step = %v, %d", i, end, e)
		}
	}
	if l, e := play.Reads(g, begin(t, g), take); e != api.ErrMove || l != nil {
		t.Errorf("Reads of a move that is not possible = %v, %d", l, e)
	}
}

// P4.5 and P4.7: a lock opens on the way, as soon as there is enough to know.
func TestOpensOnTheWay(t *testing.T) {
	g := changed(func(g *api.Game) {
		g.Room.Ways[0].When = nil
		g.Notes[1].Place = 1
	})
	p := begin(t, g)
	if _, at, e := play.Run(g, p, []api.Move{open}); e != api.ErrMove || at != 0 {
		t.Errorf("Run without the back: %d, %d", at, e)
	}
	if _, at, e := play.Run(g, p, []api.Move{out, out, open, take}); e != api.OK || at != 0 {
		t.Errorf("Run with the back: %d, %d", at, e)
	}
	g.Room.Acts[1].Uses, g.Room.Acts[1].Spends, g.Room.Acts[1].Lock = nil, nil, 0
	g.Room.Acts[1].Sets = []api.Set{{Thing: 0, State: 1}}
	if _, at, e := play.Run(g, p, []api.Move{out, out, open, out, out, turn}); e != api.OK || at != 0 {
		t.Errorf("Run with two acts with the lock: %d, %d", at, e)
	}
	if l, e := play.Opens(g, p); e != api.OK || !slices.Equal(l, []bool{false}) {
		t.Errorf("Opens at the beginning = %v, %d", l, e)
	}
}

// P4.6, P4.7, P4.9 and P4.10: several locks, each with notes of its own.
func TestLocks(t *testing.T) {
	g := changed(func(g *api.Game) {
		locked(g, 4)
		less := g.Notes[1].Clue
		g.Notes = []api.Note{{Name: "a", Lock: 1, Clue: less}, {Name: "b", Lock: 0, Clue: g.Notes[0].Clue}, {Name: "c", Lock: -1}, {Name: "d", Lock: 1, Clue: less}, {Name: "e", Lock: 0, Clue: less}, {Name: "f", Lock: 3, Clue: api.Clue{Kind: api.At, N: 3}}, {Name: "g", Lock: 3, Clue: api.Clue{Kind: api.At, A: 1, N: 1}}, {Name: "h", Lock: 3, Clue: less}}
		g.Tries = 6
	})
	p := begin(t, g)
	p.Read = []bool{true, false, true, true, true, false, true, true}
	opens := []bool{true, true, false, true}
	for lock, c := range []struct {
		clues    []int
		readings int
		needed   []int
	}{{[]int{4}, 6, []int{1, 4}}, {[]int{0, 3}, 6, []int{3}}, {nil, 16, nil}, {[]int{6, 7}, 2, []int{5, 6}}} {
		if l, e := play.Clues(g, p, lock); e != api.OK || !slices.Equal(l, c.clues) {
			t.Errorf("%d: Clues = %v, %d", lock, l, e)
		}
		if n, e := play.Readings(g, p, lock); e != api.OK || n != c.readings {
			t.Errorf("%d: Readings = %d, %d", lock, n, e)
		}
		if l, e := play.Needed(g, lock); e != api.OK || !slices.Equal(l, c.needed) {
			t.Errorf("%d: Needed = %v, %d", lock, l, e)
		}
	}
	if l, e := play.Opens(g, p); e != api.OK || !slices.Equal(l, opens) {
		t.Errorf("Opens = %v, %d", l, e)
	}
	if l, e := play.Twins(g); e != api.OK || !slices.Equal(l, []int{1, 2}) {
		t.Errorf("Twins = %v, %d", l, e)
	}
	none := changed(func(g *api.Game) { g.Locks, g.Codes, g.Notes, g.Room.Acts = nil, nil, nil, nil })
	if l, e := play.Opens(none, begin(t, none)); e != api.OK || len(l) != 0 {
		t.Errorf("Opens without locks = %v, %d", l, e)
	}
	if l, e := play.Needed(none, 0); e != api.ErrArg || l != nil {
		t.Errorf("Needed without locks = %v, %d", l, e)
	}
	wide := changed(func(g *api.Game) {
		g.Locks, g.Codes, g.Notes = []api.CodeLock{{Wheels: 4, Symbols: 10}}, [][]int{{9, 0, 9, 0}}, nil
	})
	if n, e := play.Readings(wide, begin(t, wide), 0); n != 10000 || e != api.OK {
		t.Errorf("Readings of the greatest lock = %d, %d", n, e)
	}
}
