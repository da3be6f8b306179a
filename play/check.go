package play

import (
	"padlock/api"
	"padlock/codes"
	"padlock/language"
	"padlock/room"
	"padlock/rules"
)

// check expects that the room of the game is valid.
func check(g api.Game) api.Errno {
	// Each of these relies on what those before it have found right.
	for _, part := range []func(api.Game) api.Errno{checkMany, checkLocks, checkCodes, checkActs, checkNotes, checkTries} {
		if e := part(g); e != api.OK {
			return e
		}
	}
	return api.OK
}

func checkMany(g api.Game) api.Errno {
	return rules.Unless(len(g.Locks) <= api.MaxLocks && len(g.Notes) <= api.MaxNotes, api.ErrMany)
}

func checkLocks(g api.Game) api.Errno {
	for _, l := range g.Locks {
		if e := codes.Check(l); e != api.OK {
			return e
		}
	}
	return api.OK
}

func checkCodes(g api.Game) api.Errno {
	if len(g.Codes) != len(g.Locks) {
		return api.ErrCode
	}
	for i, code := range g.Codes {
		if e := codes.CheckCode(g.Locks[i], code); e != api.OK {
			return e
		}
	}
	return api.OK
}

func checkActs(g api.Game) api.Errno {
	for _, a := range g.Room.Acts {
		if a.Lock != -1 && !rules.IsOf(g.Locks, a.Lock) {
			return api.ErrAct
		}
	}
	return api.OK
}

func checkNotes(g api.Game) api.Errno {
	names := language.Each(g.Notes, nameOfNote)
	for i, n := range g.Notes {
		if !language.IsNew(names, i) || !rules.IsOf(g.Room.Places, n.Place) || !isTrue(g, n) {
			return api.ErrNote
		}
		if !language.IsCond(g.Room.Things, n.When) {
			return api.ErrCond
		}
	}
	return api.OK
}

func checkTries(g api.Game) api.Errno {
	return rules.Unless(rules.Within(g.Tries, 1, api.MaxTries), api.ErrArg)
}

func nameOfNote(n api.Note) string { return n.Name }

// isTrue reports whether a note tells the truth about a lock that there is, or says nothing about none.
func isTrue(g api.Game, n api.Note) bool {
	if n.Lock == -1 {
		return sameClue(n.Clue, api.Clue{})
	}
	if !rules.IsOf(g.Locks, n.Lock) {
		return false
	}
	is, e := codes.Holds(g.Locks[n.Lock], n.Clue, g.Codes[n.Lock])
	return is && e == api.OK
}

// checkPosition returns the errors that all functions with a position return first.
func checkPosition(g api.Game, p api.Position) api.Errno {
	// With a wrong state the room is right, so that it need not be checked by itself; but the rest of the game comes before the state.
	state := room.CheckState(g.Room, p.State)
	if state != api.OK && state != api.ErrState {
		return state
	}
	return rules.First(check(g), state, rules.Unless(len(p.Read) == len(g.Notes), api.ErrState))
}

// checkLock returns ErrArg unless a game has a lock with this number.
func checkLock(g api.Game, lock int) api.Errno {
	return rules.Unless(rules.IsOf(g.Locks, lock), api.ErrArg)
}
