package hints

import (
	"slices"

	"padlock/api"
	"padlock/codes"
	"padlock/rules"
)

// check returns ErrHint unless a riddle is valid. The functions below expect that it is.
func check(r api.Riddle) api.Errno {
	isWrong := func(t api.Tie) bool { return !isTie(r, t) }
	is := hasLocks(r) && len(r.Ties) <= api.MaxTies && !slices.ContainsFunc(r.Ties, isWrong)
	return rules.Unless(is, api.ErrHint)
}

// hasLocks reports whether there are locks, and for each a code and clues that hold for it.
func hasLocks(r api.Riddle) bool {
	n := len(r.Locks)
	if !rules.Within(n, 1, api.MaxLocks) || len(r.Codes) != n || len(r.Known) != n {
		return false
	}
	for i, l := range r.Locks {
		// With a lock, a clue or a code that is not valid nothing fits.
		if _, fits, _ := codes.Fits(l, r.Known[i], r.Codes[i]); !fits {
			return false
		}
	}
	return true
}

// isTie reports whether a tie is valid. It expects that the locks and the codes are.
func isTie(r api.Riddle, t api.Tie) bool {
	return t.LockA != t.LockB && hasWheel(r, t.LockA, t.WheelA) && hasWheel(r, t.LockB, t.WheelB) &&
		r.Codes[t.LockA][t.WheelA] == r.Codes[t.LockB][t.WheelB]
}

func hasWheel(r api.Riddle, lock, wheel int) bool {
	return rules.IsOf(r.Locks, lock) && rules.IsOf(r.Codes[lock], wheel)
}

// checkSize returns ErrMany if there are too many lists of codes to go through.
func checkSize(r api.Riddle) api.Errno {
	n := 1
	for i, l := range r.Locks {
		readings, _ := codes.Count(l, r.Known[i])
		if n *= readings; n > api.MaxWorlds {
			return api.ErrMany
		}
	}
	return api.OK
}

func checkLock(r api.Riddle, lock int) api.Errno {
	return rules.Unless(rules.IsOf(r.Locks, lock), api.ErrArg)
}

// checkAid returns the first error of an aid that is to be told.
func checkAid(r api.Riddle, a api.Aid) api.Errno {
	if !isAid(r, a) {
		return api.ErrHint
	}
	return rules.Unless(!isFull(r, a.Lock), api.ErrMany)
}

func checkPoolSize(pool []api.Aid) api.Errno {
	return rules.Unless(len(pool) <= api.MaxAids, api.ErrMany)
}

func checkPool(r api.Riddle, pool []api.Aid) api.Errno {
	isWrong := func(a api.Aid) bool { return !isAid(r, a) }
	if e := checkPoolSize(pool); e != api.OK {
		return e
	}
	return rules.Unless(!slices.ContainsFunc(pool, isWrong), api.ErrHint)
}

// isAid reports whether an aid is valid.
func isAid(r api.Riddle, a api.Aid) bool {
	if !rules.IsOf(r.Locks, a.Lock) {
		return false
	}
	holds, _ := codes.Holds(r.Locks[a.Lock], a.Clue, r.Codes[a.Lock])
	return holds
}

// isFull reports whether nothing more can be told about a lock.
func isFull(r api.Riddle, lock int) bool { return len(r.Known[lock]) == api.MaxClues }

// copyOf returns a riddle in new memory.
func copyOf(r api.Riddle) api.Riddle {
	c := api.Riddle{Locks: slices.Clone(r.Locks), Codes: slices.Clone(r.Codes), Known: slices.Clone(r.Known), Ties: slices.Clone(r.Ties)}
	for i := range c.Locks {
		c.Codes[i] = slices.Clone(c.Codes[i])
		c.Known[i] = slices.Clone(c.Known[i])
		for j, clue := range c.Known[i] {
			c.Known[i][j].Guess = slices.Clone(clue.Guess)
		}
	}
	return c
}
