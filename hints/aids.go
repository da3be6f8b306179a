package hints

import (
	"slices"

	"padlock/api"
	"padlock/rules"
)

// narrowed returns the locks for which fewer codes are possible behind something than before.
func (k known) narrowed(behind known) []int {
	return rules.Numbers(len(k.Locks), func(lock int) bool { return len(behind.possible[lock]) < len(k.possible[lock]) })
}

// spoils returns the locks that a valid aid spoils.
func (k known) spoils(a api.Aid) []int {
	return slices.DeleteFunc(k.narrowed(k.tell(a)), func(lock int) bool { return lock == a.Lock })
}

// rung returns what is known behind a valid aid, and whether the aid is allowed.
func (k known) rung(a api.Aid) (behind known, allowed bool) {
	if isFull(k.Riddle, a.Lock) {
		return known{}, false
	}
	behind = k.tell(a)
	return behind, slices.Equal(k.narrowed(behind), []int{a.Lock})
}

// allowed returns the aids of a valid pool about a lock that are allowed.
func (k known) allowed(pool []api.Aid, lock int) []int {
	return rules.Numbers(len(pool), func(i int) bool {
		if pool[i].Lock != lock {
			return false
		}
		_, allowed := k.rung(pool[i])
		return allowed
	})
}

// best returns the allowed aid of a valid pool about a lock that leaves a better number of codes than all others, of several the first one, and what is known behind it.
func (k known) best(pool []api.Aid, lock int, better func(a, b int) bool) (aid int, behind known, found bool) {
	for i, a := range pool {
		if a.Lock != lock {
			continue
		}
		next, allowed := k.rung(a)
		if allowed && (!found || better(len(next.possible[lock]), len(behind.possible[lock]))) {
			aid, behind, found = i, next, true
		}
	}
	return aid, behind, found
}

// ladder returns aids of a valid pool about a lock, each of which leaves the most codes behind those before it.
func (k known) ladder(pool []api.Aid, lock int) []int {
	var list []int
	for {
		aid, behind, found := k.best(pool, lock, more)
		if !found {
			return list
		}
		list, k = append(list, aid), behind
	}
}

// hides reports whether the aids of a ladder are allowed, each behind those before it.
func (k known) hides(pool []api.Aid, ladder []int) bool {
	for _, aid := range ladder {
		behind, allowed := k.rung(pool[aid])
		if !allowed {
			return false
		}
		k = behind
	}
	return true
}

func more(a, b int) bool { return a > b }

func fewer(a, b int) bool { return a < b }
