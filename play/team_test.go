package play

import (
	"testing"

	"padlock/api"
)

// What is known of a lock does not outlive what is read about it.
func TestOpenAnew(t *testing.T) {
	g := api.Game{
		Room:  api.Room{Places: []string{"hall"}, Players: 1},
		Locks: []api.CodeLock{{Wheels: 1, Symbols: 2}, {Wheels: 1, Symbols: 2}},
		Codes: [][]int{{1}, {1}},
		Notes: []api.Note{{Name: "leaf", Lock: 1, Clue: api.Clue{Kind: api.At, N: 1}}},
		Tries: 1,
	}
	x := newTeam(g, api.Position{State: api.State{Players: []int{0}}, Read: []bool{false}})
	if x.isOpen(0) || x.isOpen(1) {
		t.Error("a lock is open before anything is read")
	}
	x.look()
	if x.isOpen(0) || !x.isOpen(1) {
		t.Errorf("open: %v, %v", x.isOpen(0), x.isOpen(1))
	}
}
