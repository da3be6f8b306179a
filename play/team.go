package play

import (
	"slices"

	"padlock/api"
	"padlock/room"
)

// team is a valid game and the position in which a team stands, in memory of its own. Which locks are open is found out when it is asked for, and kept until there is more to know about the lock.
type team struct {
	api.Game
	api.Position
	open map[int]bool
}

func newTeam(g api.Game, p api.Position) *team {
	s := api.State{Things: slices.Clone(p.State.Things), Props: slices.Clone(p.State.Props), Players: slices.Clone(p.State.Players)}
	return &team{Game: g, Position: api.Position{State: s, Read: slices.Clone(p.Read)}, open: map[int]bool{}}
}

// look reads every note that can be read where the players are.
func (t *team) look() {
	for i, n := range t.Notes {
		if !t.Read[i] && slices.Contains(t.State.Players, n.Place) && t.holds(n.When) {
			t.Read[i] = true
			delete(t.open, n.Lock)
		}
	}
}

func (t *team) holds(c api.Cond) bool {
	// There is no error to expect: game and position are valid.
	is, _ := room.Holds(t.Room, t.State, c)
	return is
}

// clues returns the notes about a lock that have been read.
func (t *team) clues(lock int) []int {
	return about(t.Game, lock, func(note int) bool { return t.Read[note] })
}

func (t *team) readings(lock int) int { return count(t.Game, lock, t.clues(lock)) }

func (t *team) isOpen(lock int) bool {
	is, known := t.open[lock]
	if !known {
		is = t.readings(lock) <= t.Tries
		t.open[lock] = is
	}
	return is
}

// allows reports whether no lock is in the way of a legal move.
func (t *team) allows(m api.Move) bool {
	if m.Kind != api.Do {
		return true
	}
	lock := t.Room.Acts[m.Number].Lock
	return lock == -1 || t.isOpen(lock)
}

// behind returns the state behind a move, and whether the move is possible.
func (t *team) behind(m api.Move) (s api.State, possible bool) {
	s, e := room.Step(t.Room, t.State, m)
	return s, e == api.OK && t.allows(m)
}

// step plays a move.
func (t *team) step(m api.Move) api.Errno {
	s, possible := t.behind(m)
	if !possible {
		return api.ErrMove
	}
	t.State = s
	t.look()
	return api.OK
}
