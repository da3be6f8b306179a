package room_test

import (
	"reflect"
	"slices"
	"testing"

	"padlock/api"
)

// spoil writes over all numbers of lists.
func spoil(v reflect.Value) {
	switch v.Kind() {
	case reflect.Interface:
		spoil(v.Elem())
	case reflect.Struct:
		for i := range v.NumField() {
			spoil(v.Field(i))
		}
	case reflect.Slice:
		for i := range v.Len() {
			spoil(v.Index(i))
		}
	case reflect.Int:
		if v.CanSet() {
			v.SetInt(77)
		}
	}
}

// R4: results are new memory, and arguments stay as they are.
func TestMemory(t *testing.T) {
	trials(t, 100, func(t *testing.T, k maker, r api.Room) {
		s := k.state(r)
		moves := everyMove(r)
		if len(moves) == 0 {
			return
		}
		move := moves[k.IntN(len(moves))]
		run := func() [][]any { return calls(r, s, r.Goal, move, []api.Move{}, 0, fullText) }
		before, other, first := run(), run(), copyState(s)
		for _, results := range other {
			for _, x := range results {
				spoil(reflect.ValueOf(&x).Elem())
			}
		}
		if after := run(); !reflect.DeepEqual(before, after) {
			t.Errorf("%v, then %v", before, after)
		}
		if !sameState(s, first) {
			t.Errorf("the state is now %v, and was %v", s, first)
		}
	})
}

// oddRooms are rooms with numbers and texts that may not be.
func oddRooms() []api.Room {
	numbers := []int{least, -3, -2, -1, 0, 1, 2, 6, 8, most}
	names := []string{"", "a", "at", "A", "\xff", "abcdefghijklm", "b"}
	var list []api.Room
	for i := range 700 {
		at := func(k int) int { return numbers[(i/k+i*k)%len(numbers)] }
		name := func(k int) string { return names[(i/k+i)%len(names)] }
		cond := api.Cond{{Thing: at(3), State: at(5)}, {Thing: at(2), State: at(7), Not: true}}[:i%3]
		r := api.Room{
			Places:  []string{name(2), name(3), name(5)}[:i%4],
			Things:  []api.Thing{{Name: name(1), Place: at(2), States: at(3), Start: at(5)}, {Name: name(4), Place: at(7), States: at(11), Start: at(13)}}[:i/2%3],
			Props:   []api.Prop{{Name: name(6), Place: at(2), When: cond}, {Name: name(7), Place: at(3)}}[:i/3%3],
			Ways:    []api.Way{{A: at(1), B: at(4), When: cond}}[:i/4%2],
			Acts:    []api.Act{{Name: name(3), Place: at(9), Lock: at(8), Uses: []int{at(2)}, When: cond, Sets: []api.Set{{Thing: at(3), State: at(4)}}, Spends: []int{at(2), at(3)}}}[:i/5%2],
			Autos:   []api.Auto{{When: cond, Set: api.Set{Thing: at(6), State: at(2)}}}[:i/6%2],
			Players: at(10),
			Goal:    cond,
		}
		list = append(list, r)
	}
	big := api.Room{Places: slices.Repeat([]string{"p"}, 100000), Things: make([]api.Thing, 100000), Props: make([]api.Prop, 100000), Acts: make([]api.Act, 100000), Players: most}
	return append(list, big, example(), full(), crowd())
}

// P0.1: no function panics, whatever the arguments are, and the results depend on them alone.
func TestAnyArguments(t *testing.T) {
	numbers := []int{least, -3, -2, -1, 0, 1, 2, most}
	texts := []string{"", "\n", "place", "place \n", "goal\n", "players\n", "act a at", "place p\nact a at p with\n", "place p\nthing t at p states 2 start 0\nplayers 1\ngoal =\n", "\x00\n\xff", fullText}
	for i, r := range oddRooms() {
		for j := range 40 {
			at := func(k int) int { return numbers[(i/k+j*k)%len(numbers)] }
			s := api.State{Things: []int{at(2), at(3), at(5)}[:j%4], Props: []int{at(7), at(2), at(3), at(4), at(5), at(6)}[:j%7], Players: []int{at(3), at(4), at(5), at(6)}[:j%5]}
			m := api.Move{Player: at(2), Kind: at(3), Number: at(4)}
			args := func() [][]any {
				return calls(r, s, api.Cond{{Thing: at(2), State: at(3)}}, m, []api.Move{m, m}, at(9), texts[(i+j)%len(texts)])
			}
			if a, b := args(), args(); !reflect.DeepEqual(a, b) {
				t.Fatalf("%+v, %v, %v: %v, then %v", r, s, m, a, b)
			}
		}
	}
}
