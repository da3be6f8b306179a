package room_test

import (
	"fmt"
	"math/rand/v2"
	"regexp"
	"slices"
	"strings"
	"testing"

	"padlock/api"
	"padlock/room"
)

// This file says once more, in the plainest way, what the chapter says, so that the tests have something to compare with; and it makes rooms.

func copyState(s api.State) api.State {
	return api.State{Things: append([]int{}, s.Things...), Props: append([]int{}, s.Props...), Players: append([]int{}, s.Players...)}
}

func sameState(a, b api.State) bool {
	return slices.Equal(a.Things, b.Things) && slices.Equal(a.Props, b.Props) && slices.Equal(a.Players, b.Players)
}

// isTrue counts the literals that hold.
func isTrue(s api.State, c api.Cond) bool {
	n := 0
	for _, l := range c {
		switch state := s.Things[l.Thing]; {
		case !l.Not && state == l.State, l.Not && state != l.State:
			n++
		}
	}
	return n == len(c)
}

// rest settles a state by going through the autos from the first one again and again.
func rest(r api.Room, s api.State) (api.State, bool) {
	s = copyState(s)
	for settings := 0; ; settings++ {
		found := false
		for _, a := range r.Autos {
			if isTrue(s, a.When) && s.Things[a.Set.Thing] != a.Set.State {
				s.Things[a.Set.Thing], found = a.Set.State, true
				break
			}
		}
		if !found {
			return s, true
		}
		if settings == 100 {
			return s, false
		}
	}
}

// hand returns the props in the hand of a player.
func hand(s api.State, player int) []int {
	var list []int
	for i, at := range s.Props {
		if at == -2-player {
			list = append(list, i)
		}
	}
	return list
}

// behind returns the state behind a move of a number that exists, before it settles, and whether the move is legal.
func behind(r api.Room, s api.State, m api.Move) (api.State, bool) {
	t, here, held := copyState(s), s.Players[m.Player], hand(s, m.Player)
	switch m.Kind {
	case 1:
		w := r.Ways[m.Number]
		ends := map[int]int{w.A: w.B, w.B: w.A}
		there, is := ends[here]
		t.Players[m.Player] = there
		return t, is && isTrue(s, w.When)
	case 2:
		t.Props[m.Number] = -2 - m.Player
		return t, s.Props[m.Number] == here && isTrue(s, r.Props[m.Number].When) && len(held) <= 2
	case 3:
		t.Props[m.Number] = here
		return t, slices.Contains(held, m.Number)
	}
	a := r.Acts[m.Number]
	legal := a.Place == here && isTrue(s, a.When)
	for _, p := range a.Uses {
		legal = legal && slices.Contains(held, p)
	}
	for _, p := range a.Spends {
		t.Props[p] = -1
	}
	for _, p := range a.Brings {
		legal = legal && s.Props[p] == -1
		t.Props[p] = -2 - m.Player
	}
	for _, x := range a.Sets {
		t.Things[x.Thing] = x.State
	}
	return t, legal && len(hand(t, m.Player)) <= 3
}

// everyMove returns all moves with numbers that exist, in order.
func everyMove(r api.Room) []api.Move {
	var list []api.Move
	for player := range r.Players {
		for kind, n := range []int{0, len(r.Ways), len(r.Props), len(r.Props), len(r.Acts)} {
			for number := range n {
				list = append(list, api.Move{Player: player, Kind: kind, Number: number})
			}
		}
	}
	return list
}

// maker makes things by chance, the same ones for the same seed.
type maker struct{ *rand.Rand }

func (k maker) name(list ...string) string {
	for {
		word := ""
		for range 1 + k.IntN(12)*k.IntN(2) {
			word += string(rune('a' + k.IntN(26)))
		}
		if !slices.Contains(list, word) && !slices.Contains(reserved, word) {
			return word
		}
	}
}

func (k maker) cond(r api.Room) api.Cond {
	var c api.Cond
	if len(r.Things) > 0 && k.IntN(2) == 0 {
		for range k.IntN(3) {
			t := k.IntN(len(r.Things))
			c = append(c, api.Lit{Thing: t, State: k.IntN(r.Things[t].States), Not: k.IntN(2) == 0})
		}
	}
	return c
}

// some returns numbers of props, ascending, of those that a function accepts.
func (k maker) some(r api.Room, chance int, accepts func(int) bool) []int {
	var list []int
	for i := range r.Props {
		if accepts(i) && k.IntN(chance) == 0 {
			list = append(list, i)
		}
	}
	return list
}

func (k maker) act(r api.Room, name string) api.Act {
	a := api.Act{Name: name, Place: k.IntN(len(r.Places)), Lock: k.IntN(9) - 1, When: k.cond(r)}
	a.Uses = k.some(r, 4, func(int) bool { return true })
	a.Spends = k.some(r, 2, func(p int) bool { return slices.Contains(a.Uses, p) })
	a.Brings = k.some(r, 6, func(p int) bool { return !slices.Contains(a.Uses, p) })
	for i, t := range r.Things {
		if k.IntN(3) == 0 && len(a.Sets) < 6 {
			a.Sets = append(a.Sets, api.Set{Thing: i, State: k.IntN(t.States)})
		}
	}
	return a
}

// room makes a valid room.
func (k maker) room() api.Room {
	r := api.Room{Players: 1 + k.IntN(4)}
	for range 1 + k.IntN(4) {
		r.Places = append(r.Places, k.name(r.Places...))
	}
	var names []string
	for range k.IntN(6) {
		names = append(names, k.name(names...))
		states := 2 + k.IntN(5)
		r.Things = append(r.Things, api.Thing{Name: names[len(names)-1], Place: k.IntN(len(r.Places)), States: states, Start: k.IntN(states)})
	}
	for range k.IntN(8) {
		names = append(names, k.name(names...))
		r.Props = append(r.Props, api.Prop{Name: names[len(names)-1], Place: k.IntN(len(r.Places)+1) - 1, When: k.cond(r)})
	}
	for range k.IntN(5) {
		a, b := k.IntN(len(r.Places)), k.IntN(len(r.Places))
		if a != b {
			r.Ways = append(r.Ways, api.Way{A: a, B: b, When: k.cond(r)})
		}
	}
	names = nil
	for range k.IntN(6) {
		names = append(names, k.name(names...))
		r.Acts = append(r.Acts, k.act(r, names[len(names)-1]))
	}
	for range k.IntN(4) {
		if len(r.Things) > 0 {
			t := k.IntN(len(r.Things))
			r.Autos = append(r.Autos, api.Auto{When: append(k.cond(r), k.cond(r)...), Set: api.Set{Thing: t, State: k.IntN(r.Things[t].States)}})
		}
	}
	r.Goal = k.cond(r)
	return r
}

// state makes any state of a room.
func (k maker) state(r api.Room) api.State {
	var s api.State
	for _, t := range r.Things {
		s.Things = append(s.Things, k.IntN(t.States))
	}
	for range r.Props {
		s.Props = append(s.Props, k.IntN(len(r.Places)+1+r.Players)-1-r.Players)
	}
	for range r.Players {
		s.Players = append(s.Players, k.IntN(len(r.Places)))
	}
	return s
}

// trials runs a test with many rooms.
func trials(t *testing.T, n int, test func(t *testing.T, k maker, r api.Room)) {
	t.Helper()
	for seed := range n {
		k := maker{rand.New(rand.NewPCG(uint64(seed), 2))}
		r := k.room()
		if e := room.Check(r); e != api.OK {
			t.Fatalf("seed %d: the room %+v is not valid: %d", seed, r, e)
		}
		t.Run(fmt.Sprint(seed), func(t *testing.T) { test(t, k, r) })
	}
}

var reserved = strings.Fields("at states start gone if lock with sets spends brings")

// patterns has how a line looks whose reserved words are written in capitals: N is a name, D a number, L a literal, S a setting.
var patterns = [][2]string{
	{"place", "place N"}, {"thing", "thing N AT N STATES D START D"}, {"prop", "prop N( GONE| AT N)( IF L( L)*)?"}, {"way", "way N N( IF L( L)*)?"},
	{"act", "act N AT N( LOCK D)?( WITH N( N)*)?( IF L( L)*)?( SETS S( S)*)?( SPENDS N( N)*)?( BRINGS N( N)*)?"},
	{"auto", "auto S( IF L( L)*)?"}, {"players", "players D"}, {"goal", "goal( L)*"},
}

var lineForms = func() []*regexp.Regexp {
	var list []*regexp.Regexp
	for _, p := range patterns {
		form := regexp.MustCompile(`\b[NDLS]\b`).ReplaceAllStringFunc(p[1], func(s string) string {
			return map[string]string{"N": "[a-z]+", "D": "(0|[1-9][0-9]?)", "L": "[a-z]+[=!](0|[1-9][0-9]?)", "S": "[a-z]+=(0|[1-9][0-9]?)"}[s]
		})
		list = append(list, regexp.MustCompile(`\A`+form+`\z`))
	}
	return list
}()

// firstWrong returns the number of the first line of a text that is wrong, or 0.
func firstWrong(text string) int {
	last := 0
	known := map[string][]string{}
	lines := strings.SplitAfter(text, "\n")
	for i, line := range lines {
		if i == len(lines)-1 && line == "" {
			break
		}
		part := rightPart(line, last, known)
		if part < 0 {
			return i + 1
		}
		last = part
		if words := strings.Fields(line); part <= 2 {
			known[words[0]] = append(known[words[0]], words[1])
		}
	}
	if last < 7 {
		return strings.Count(text, "\n") + 1
	}
	return 0
}

// rightPart returns the part of a line, or -1 if it is wrong.
func rightPart(line string, last int, known map[string][]string) int {
	words := strings.Split(strings.TrimSuffix(line, "\n"), " ")
	for i, w := range words {
		if i > 0 && slices.Contains(reserved, w) {
			words[i] = strings.ToUpper(w)
		}
	}
	part := slices.IndexFunc(patterns, func(p [2]string) bool { return p[0] == words[0] })
	if !strings.HasSuffix(line, "\n") || strings.ToLower(line) != line || part < last || last == 7 || last == 6 && part == 6 || part == 7 && last < 6 || !lineForms[max(part, 0)].MatchString(strings.Join(words, " ")) {
		return -1
	}
	kind := ""
	for i, w := range words {
		switch {
		case i == 0 || i == 1 && part != 3 && part != 5 && part != 7:
		case w == "AT":
			kind = "place"
		case w == "WITH" || w == "SPENDS" || w == "BRINGS":
			kind = "prop"
		case strings.ContainsAny(w, "=!"):
			if !slices.Contains(known["thing"], strings.FieldsFunc(w, func(r rune) bool { return r == '=' || r == '!' })[0]) {
				return -1
			}
		case w[0] >= 'a' && part == 3 && !slices.Contains(known["place"], w), w[0] >= 'a' && part != 3 && !slices.Contains(known[kind], w):
			return -1
		}
	}
	return part
}
