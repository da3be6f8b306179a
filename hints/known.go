package hints

import (
	"slices"

	"padlock/api"
	"padlock/codes"
	"padlock/rules"
)

// known is a valid riddle, and what is known by it: the codes that are possible for each lock, in order.
type known struct {
	api.Riddle
	possible [][][]int
}

// world has, for each lock, the number of its code among those that are possible.
type world [api.MaxLocks]int

// newKnown returns the error that all functions with a riddle return first, if there is one.
func newKnown(r api.Riddle) (known, api.Errno) {
	if e := check(r); e != api.OK {
		return known{}, e
	}
	if e := checkSize(r); e != api.OK {
		return known{}, e
	}
	k := known{Riddle: r}
	for i, l := range r.Locks {
		k.possible = append(k.possible, readings(l, r.Known[i]))
	}
	k.narrow()
	return k, api.OK
}

// readings returns all readings of valid clues, in order.
func readings(l api.CodeLock, clues []api.Clue) [][]int {
	var list [][]int
	for code := range rules.Lists(l.Wheels, 0, l.Symbols-1) {
		if _, fits, _ := codes.Fits(l, clues, code); fits {
			list = append(list, slices.Clone(code))
		}
	}
	return list
}

// narrow leaves only those codes of the possible ones that are in some world.
func (k *known) narrow() {
	occurs := make([][]bool, len(k.Locks))
	for lock, list := range k.possible {
		occurs[lock] = make([]bool, len(list))
	}
	for w := range k.worlds {
		for lock := range occurs {
			occurs[lock][w[lock]] = true
		}
	}
	for lock, list := range k.possible {
		var left [][]int
		for i, code := range list {
			if occurs[lock][i] {
				left = append(left, code)
			}
		}
		k.possible[lock] = left
	}
}

// worlds yields the worlds whose codes are among the possible ones.
func (k *known) worlds(yield func(world) bool) {
	var w world
	k.extend(&w, 0, yield)
}

// extend yields the worlds that begin with the codes of the locks before one, until it is told to stop; it reports whether to go on.
func (k *known) extend(w *world, lock int, yield func(world) bool) bool {
	if lock == len(k.Locks) {
		return yield(*w)
	}
	for i := range k.possible[lock] {
		w[lock] = i
		if k.keepsTies(w, lock) && !k.extend(w, lock+1, yield) {
			return false
		}
	}
	return true
}

// keepsTies reports whether all ties hold between a lock and those before it.
func (k *known) keepsTies(w *world, lock int) bool {
	for _, t := range k.Ties {
		if max(t.LockA, t.LockB) == lock && k.symbol(w, t.LockA, t.WheelA) != k.symbol(w, t.LockB, t.WheelB) {
			return false
		}
	}
	return true
}

func (k *known) symbol(w *world, lock, wheel int) int { return k.possible[lock][w[lock]][wheel] }

// isSure reports whether one code alone is possible for a lock.
func (k *known) isSure(lock int) bool { return len(k.possible[lock]) == 1 }

// isSecret reports whether a wheel shows more than one symbol in the codes that are possible for its lock.
func (k *known) isSecret(lock, wheel int) bool {
	list := k.possible[lock]
	return slices.ContainsFunc(list, func(code []int) bool { return code[wheel] != list[0][wheel] })
}

// tell returns what is known behind a valid aid.
func (k known) tell(a api.Aid) known {
	isOut := func(code []int) bool {
		holds, _ := codes.Holds(k.Locks[a.Lock], a.Clue, code)
		return !holds
	}
	k.Known, k.possible = slices.Clone(k.Known), slices.Clone(k.possible)
	k.Known[a.Lock] = append(slices.Clip(k.Known[a.Lock]), a.Clue)
	k.possible[a.Lock] = slices.DeleteFunc(slices.Clone(k.possible[a.Lock]), isOut)
	k.narrow()
	return k
}
