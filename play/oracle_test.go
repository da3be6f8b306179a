package play_test

import (
	"fmt"
	"math/rand/v2"
	"reflect"
	"regexp"
	"slices"
	"strings"
	"testing"

	"padlock/api"
	"padlock/codes"
	"padlock/play"
	"padlock/room"
)

// This file says once more, in the plainest way, what the chapter says, so that the tests have something to compare with; and it makes games.

// allCodes counts in the base of the symbols.
func allCodes(l api.CodeLock) [][]int {
	list := [][]int{nil}
	for range l.Wheels {
		var longer [][]int
		for _, code := range list {
			for s := range l.Symbols {
				longer = append(longer, append(slices.Clone(code), s))
			}
		}
		list = longer
	}
	return list
}

// fitting returns the codes of a lock in which the clues of notes hold.
func fitting(g api.Game, lock int, notes []int) [][]int {
	return slices.DeleteFunc(allCodes(g.Locks[lock]), func(code []int) bool {
		return slices.ContainsFunc(notes, func(note int) bool { return !says(g.Notes[note].Clue, code) })
	})
}

// says reports whether a clue holds for a code.
func says(c api.Clue, code []int) bool {
	is := false
	switch c.Kind {
	case api.At:
		is = code[c.A] == c.N
	case api.Sum:
		n := 0
		for _, s := range code[c.A : c.B+1] {
			n += s
		}
		is = n == c.N
	case api.Less:
		is = code[c.A] < code[c.B]
	case api.Same:
		is = code[c.A] == code[c.B]
	case api.Has:
		is = len(slices.DeleteFunc(slices.Clone(code), func(s int) bool { return s != c.N })) == c.M
	case api.Right:
		right, common := pegs(slices.Clone(code), slices.Clone(c.Guess))
		is = right == c.N && common == c.M
	case api.Remain:
		is = code[c.A]%c.N == c.M
	}
	return is != c.Not
}

// pegs crosses out symbols, as players do.
func pegs(code, guess []int) (right, common int) {
	for w := range code {
		if code[w] == guess[w] {
			right++
			code[w], guess[w] = -1, -2
		}
	}
	for _, s := range guess {
		if w := slices.Index(code, s); w >= 0 {
			common++
			code[w] = -1
		}
	}
	return right, common
}

// told returns the notes about a lock that have been read, or all if no position is given.
func told(g api.Game, lock int, p ...api.Position) []int {
	var list []int
	for i, n := range g.Notes {
		if n.Lock == lock && (len(p) == 0 || p[0].Read[i]) {
			list = append(list, i)
		}
	}
	return list
}

// isOpen reports whether a lock is open.
func isOpen(g api.Game, p api.Position, lock int) bool {
	return len(fitting(g, lock, told(g, lock, p))) <= g.Tries
}

// readable returns the notes that can be read in a state.
func readable(g api.Game, s api.State) []int {
	var list []int
	for i, n := range g.Notes {
		holds := true
		for _, l := range n.When {
			holds = holds && (s.Things[l.Thing] == l.State) != l.Not
		}
		if holds && slices.Contains(s.Players, n.Place) {
			list = append(list, i)
		}
	}
	return list
}

// stand returns a position in which a team has read what it had read before and what can be read.
func stand(g api.Game, s api.State, before []bool) api.Position {
	p := api.Position{State: s, Read: make([]bool, len(g.Notes))}
	copy(p.Read, before)
	for _, note := range readable(g, s) {
		p.Read[note] = true
	}
	return p
}

// behind returns the position behind a move, and whether the move is possible.
func behind(g api.Game, p api.Position, m api.Move) (api.Position, bool) {
	s, e := room.Step(g.Room, p.State, m)
	if e != api.OK {
		return api.Position{}, false
	}
	if m.Kind == api.Do && g.Room.Acts[m.Number].Lock >= 0 && !isOpen(g, p, g.Room.Acts[m.Number].Lock) {
		return api.Position{}, false
	}
	return stand(g, s, p.Read), true
}

// everyMove returns all moves with numbers that exist, in order, and some others.
func everyMove(r api.Room) []api.Move {
	var list []api.Move
	for player := range r.Players {
		for kind, n := range []int{1, len(r.Ways), len(r.Props), len(r.Props), len(r.Acts), 1} {
			for number := range n {
				list = append(list, api.Move{Player: player, Kind: kind, Number: number})
			}
			list = append(list, api.Move{Player: player, Kind: kind, Number: n})
		}
	}
	return append(list, api.Move{Player: -1, Kind: api.Do}, api.Move{Player: r.Players, Kind: api.Do}, api.Move{Kind: api.Do, Number: -1}, api.Move{Kind: api.Go, Number: most}, api.Move{Kind: least})
}

func samePosition(a, b api.Position) bool {
	return slices.Equal(a.State.Things, b.State.Things) && slices.Equal(a.State.Props, b.State.Props) &&
		slices.Equal(a.State.Players, b.State.Players) && slices.Equal(a.Read, b.Read)
}

// maker makes things by chance, the same ones for the same seed.
type maker struct{ *rand.Rand }

func (k maker) names(n int) []string {
	list := strings.Fields("box door lamp place note tries codelock goal abcdefghijkl z")
	k.Shuffle(len(list), func(i, j int) { list[i], list[j] = list[j], list[i] })
	return list[:n]
}

func (k maker) cond(r api.Room, most int) api.Cond {
	var c api.Cond
	for range k.IntN(most + 1) {
		t := k.IntN(len(r.Things))
		c = append(c, api.Lit{Thing: t, State: k.IntN(r.Things[t].States), Not: k.IntN(2) == 0})
	}
	return c
}

// room makes a valid room with at most so many locks.
func (k maker) room(locks int) api.Room {
	r := api.Room{Places: k.names(1 + k.IntN(3)), Players: 1 + k.IntN(3)}
	for _, name := range k.names(1 + k.IntN(4)) {
		r.Things = append(r.Things, api.Thing{Name: name, Place: k.IntN(len(r.Places)), States: 2 + k.IntN(2)})
	}
	for _, name := range k.names(k.IntN(4)) {
		r.Props = append(r.Props, api.Prop{Name: name, Place: k.IntN(len(r.Places)), When: k.cond(r, 1)})
	}
	for range k.IntN(4) {
		if a, b := k.IntN(len(r.Places)), k.IntN(len(r.Places)); a != b {
			r.Ways = append(r.Ways, api.Way{A: a, B: b, When: k.cond(r, 1)})
		}
	}
	for _, name := range k.names(1 + k.IntN(6)) {
		t := k.IntN(len(r.Things))
		a := api.Act{Name: name, Place: k.IntN(len(r.Places)), Lock: k.IntN(locks+1) - 1, When: k.cond(r, 1), Sets: []api.Set{{Thing: t, State: k.IntN(r.Things[t].States)}}}
		if p := k.IntN(9); p < len(r.Props) {
			a.Uses = []int{p}
		}
		r.Acts = append(r.Acts, a)
	}
	for range k.IntN(3) {
		t := k.IntN(len(r.Things))
		r.Autos = append(r.Autos, api.Auto{When: append(k.cond(r, 2), k.cond(r, 1)...), Set: api.Set{Thing: t, State: k.IntN(r.Things[t].States)}})
	}
	r.Goal = k.cond(r, 2)
	return r
}

func (k maker) code(l api.CodeLock) []int {
	code := make([]int, l.Wheels)
	for w := range code {
		code[w] = k.IntN(l.Symbols)
	}
	return code
}

// clue makes a clue that holds for a code.
func (k maker) clue(l api.CodeLock, code []int) api.Clue {
	a, b := k.IntN(l.Wheels), k.IntN(l.Wheels)
	c := api.Clue{Kind: 1 + k.IntN(7), Not: k.IntN(2) == 0}
	if a == b && (c.Kind == api.Less || c.Kind == api.Same) {
		c.Kind = api.At
	}
	switch c.Kind {
	case api.At:
		c.A, c.N = a, k.IntN(l.Symbols)
	case api.Sum:
		c.A, c.B, c.N = min(a, b), max(a, b), k.IntN(2*l.Symbols)
	case api.Less, api.Same:
		c.A, c.B = a, b
	case api.Has:
		c.N, c.M = k.IntN(l.Symbols), k.IntN(l.Wheels+1)
	case api.Right:
		c.Guess, c.N, c.M = k.code(l), k.IntN(l.Wheels+1), k.IntN(l.Wheels+1)
	case api.Remain:
		c.A, c.N = a, 2+k.IntN(9)
		c.M = k.IntN(min(c.N, l.Symbols))
	}
	c.Not = c.Not != !says(c, code)
	return c
}

// game makes a valid game.
func (k maker) game() api.Game {
	locks := k.IntN(5)
	g := api.Game{Room: k.room(locks), Tries: []int{1, 1, 2, 3, 5, 10, 100}[k.IntN(7)]}
	for i := range locks {
		g.Locks = append(g.Locks, api.CodeLock{Wheels: 1 + k.IntN(3), Symbols: 2 + k.IntN(4)})
		g.Codes = append(g.Codes, k.code(g.Locks[i]))
	}
	for _, name := range k.names(k.IntN(10)) {
		n := api.Note{Name: name, Place: k.IntN(len(g.Room.Places)), Lock: k.IntN(locks+1) - 1, When: k.cond(g.Room, 2)}
		if n.Lock >= 0 {
			n.Clue = k.clue(g.Locks[n.Lock], g.Codes[n.Lock])
		}
		g.Notes = append(g.Notes, n)
	}
	return g
}

// position makes any position of a game.
func (k maker) position(g api.Game) api.Position {
	p := api.Position{Read: make([]bool, len(g.Notes))}
	for _, t := range g.Room.Things {
		p.State.Things = append(p.State.Things, k.IntN(t.States))
	}
	for range g.Room.Props {
		p.State.Props = append(p.State.Props, k.IntN(len(g.Room.Places)+1+g.Room.Players)-1-g.Room.Players)
	}
	for range g.Room.Players {
		p.State.Players = append(p.State.Players, k.IntN(len(g.Room.Places)))
	}
	for i := range p.Read {
		p.Read[i] = k.IntN(2) == 0
	}
	return p
}

// trials runs a test with many games.
func trials(t *testing.T, n int, test func(t *testing.T, k maker, g api.Game)) {
	t.Helper()
	for seed := range n {
		k := maker{rand.New(rand.NewPCG(uint64(seed), 4))}
		g := k.game()
		if e := play.Check(g); e != api.OK {
			t.Fatalf("seed %d: the game %+v is not valid: %d", seed, g, e)
		}
		t.Run(fmt.Sprint(seed), func(t *testing.T) { test(t, k, g) })
	}
}

// plays plays games by chance, and hands on each position, the moves that led to it from the first one on, and the position before it.
func plays(t *testing.T, n int, test func(t *testing.T, g api.Game, p, before api.Position, moves []api.Move)) {
	t.Helper()
	trials(t, n, func(t *testing.T, k maker, g api.Game) {
		p, e := play.Begin(g)
		if e != api.OK {
			return
		}
		var moves []api.Move
		test(t, g, p, p, nil)
		for range 25 {
			can, e := play.Can(g, p)
			if e != api.OK || len(can) == 0 {
				break
			}
			m := can[k.IntN(len(can))]
			before := p
			moves = append(moves, m)
			if p, e = play.Step(g, p, m); e != api.OK {
				t.Fatalf("Step of %v: %d", m, e)
			}
			test(t, g, p, before, moves)
		}
	})
}

const (
	numberForm = `(0|[1-9][0-9]{0,2})`
	litForm    = `[a-z]+[=!](?:0|[1-9][0-9]?)`
)

var (
	lockForm  = regexp.MustCompile(`\Acodelock ` + numberForm + ` ` + numberForm + ` [0-9]{1,4}\n\z`)
	noteForm  = regexp.MustCompile(`\Anote ([a-z]+) at ([a-z]+)(?: if (` + litForm + `(?: ` + litForm + `)*))?(?: lock ` + numberForm + ` ([^\n]*))?\n\z`)
	triesForm = regexp.MustCompile(`\Atries ` + numberForm + `\n\z`)
	lineForm  = regexp.MustCompile(`[^\n]*\n|[^\n]+\z`)
	reserved  = strings.Fields("at states start gone if lock with sets spends brings")
)

// firstWrong returns what Parse says of a text: the number of a line and an error, which is OK if only Check can have one.
func firstWrong(s string) (int, api.Errno) {
	if len(s) > 65536 {
		return 0, api.ErrMany
	}
	lines := lineForm.FindAllString(s, -1)
	n := 1 + slices.IndexFunc(lines, func(l string) bool { return l == "goal" || l == "goal\n" || strings.HasPrefix(l, "goal ") })
	if n == 0 {
		n = len(lines)
	}
	r, line, e := room.Parse(strings.Join(lines[:n], ""))
	if e != api.OK {
		return line, e
	}
	last := 'c'
	var locks []api.CodeLock
	for i, l := range lines[n:] {
		kind := rune(l[0])
		right := kind >= last && last != 't'
		switch last = kind; {
		case lockForm.MatchString(l):
			var x api.CodeLock
			fmt.Sscanf(l, "codelock %d %d", &x.Wheels, &x.Symbols)
			locks = append(locks, x)
		case noteForm.MatchString(l):
			right = right && isNote(r, locks, noteForm.FindStringSubmatch(l))
		default:
			right = right && triesForm.MatchString(l)
		}
		if !right {
			return n + i + 1, api.ErrForm
		}
	}
	if last != 't' {
		return len(lines) + 1, api.ErrForm
	}
	return 0, api.OK
}

// isNote reports whether the parts of a line about a note stand for what there is.
func isNote(r api.Room, locks []api.CodeLock, parts []string) bool {
	name, place, lits, lock, clue := parts[1], parts[2], parts[3], parts[4], parts[5]
	if slices.Contains(reserved, name) || !slices.Contains(r.Places, place) {
		return false
	}
	for _, lit := range strings.Fields(lits) {
		thing := strings.FieldsFunc(lit, func(r rune) bool { return r == '=' || r == '!' })[0]
		if !slices.ContainsFunc(r.Things, func(t api.Thing) bool { return t.Name == thing }) {
			return false
		}
	}
	if lock == "" {
		return true
	}
	n := 0
	fmt.Sscan(lock, &n)
	if n >= len(locks) {
		return false
	}
	_, e := codes.Parse(locks[n], clue)
	return e == api.OK
}

// eachChange gives out a change of each number, text, bool and list of a value.
func eachChange(v reflect.Value, give func(path string, change func(reflect.Value))) {
	switch v.Kind() {
	case reflect.Struct:
		for i := range v.NumField() {
			eachChange(v.Field(i), func(path string, change func(reflect.Value)) {
				give(v.Type().Field(i).Name+"."+path, func(v reflect.Value) { change(v.Field(i)) })
			})
		}
	case reflect.Slice:
		for i := range v.Len() {
			eachChange(v.Index(i), func(path string, change func(reflect.Value)) {
				give(fmt.Sprint(i, ".", path), func(v reflect.Value) { change(v.Index(i)) })
			})
		}
		give("more", func(v reflect.Value) { v.Set(reflect.Append(v, reflect.Zero(v.Type().Elem()))) })
		if v.Len() > 0 {
			give("less", func(v reflect.Value) { v.Set(v.Slice(0, v.Len()-1)) })
		}
	case reflect.Int:
		for _, n := range []int{v.Interface().(int) + 1, v.Interface().(int) - 1, least, most, 8} {
			if n != v.Interface().(int) {
				give(fmt.Sprint("int ", n), func(v reflect.Value) { v.SetInt(int64(n)) })
			}
		}
	case reflect.String:
		for _, s := range []string{"", "at", "A", "\xff", "abcdefghijklm"} {
			give("string "+s, func(v reflect.Value) { v.SetString(s) })
		}
	case reflect.Bool:
		give("bool", func(v reflect.Value) { v.SetBool(!v.Bool()) })
	}
}
