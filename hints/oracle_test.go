package hints_test

import (
	"fmt"
	"math/rand/v2"
	"slices"
	"testing"

	"padlock/api"
	"padlock/codes"
	"padlock/hints"
)

// This file says once more, in the plainest way, what the chapter says, so that the tests have something to compare with; and it makes riddles.

// allCodes returns all codes of a lock, in order.
func allCodes(l api.CodeLock) [][]int {
	list := [][]int{nil}
	for range l.Wheels {
		var longer [][]int
		for _, code := range list {
			for s := range l.Symbols {
				longer = append(longer, append(slices.Clone(code), s))
			}
		}
		list = longer
	}
	return list
}

// holds reports whether a clue is valid, and holds for a code.
func holds(l api.CodeLock, c api.Clue, code []int) bool {
	is, e := codes.Holds(l, c, code)
	return is && e == api.OK
}

// fitting returns the codes of a lock in which all known clues hold.
func fitting(r api.Riddle, lock int) [][]int {
	return slices.DeleteFunc(allCodes(r.Locks[lock]), func(code []int) bool {
		return slices.ContainsFunc(r.Known[lock], func(c api.Clue) bool { return !holds(r.Locks[lock], c, code) })
	})
}

// worlds returns all lists of codes in which all known clues hold and all ties.
func worlds(r api.Riddle) [][][]int {
	list := [][][]int{nil}
	for lock := range r.Locks {
		var longer [][][]int
		codes := fitting(r, lock)
		for _, w := range list {
			for _, code := range codes {
				longer = append(longer, append(slices.Clone(w), code))
			}
		}
		list = longer
	}
	return slices.DeleteFunc(list, func(w [][]int) bool {
		return slices.ContainsFunc(r.Ties, func(t api.Tie) bool { return w[t.LockA][t.WheelA] != w[t.LockB][t.WheelB] })
	})
}

// possible returns the codes of each lock in some world, in order.
func possible(r api.Riddle) [][][]int {
	list := make([][][]int, len(r.Locks))
	for _, w := range worlds(r) {
		for lock, code := range w {
			list[lock] = append(list[lock], code)
		}
	}
	for lock := range list {
		slices.SortFunc(list[lock], slices.Compare[[]int])
		list[lock] = slices.CompactFunc(list[lock], slices.Equal[[]int])
	}
	return list
}

// told returns a riddle behind an aid, which shares memory with it.
func told(r api.Riddle, a api.Aid) api.Riddle {
	r.Known = slices.Clone(r.Known)
	r.Known[a.Lock] = append(slices.Clone(r.Known[a.Lock]), a.Clue)
	return r
}

// left returns how many codes are possible for the lock of an aid behind it.
func left(r api.Riddle, a api.Aid) int { return len(possible(told(r, a))[a.Lock]) }

// changed returns the locks for which an aid leaves fewer codes, without or with its own lock.
func changed(r api.Riddle, a api.Aid, own bool) []int {
	var list []int
	before, behind := possible(r), possible(told(r, a))
	for lock := range r.Locks {
		if (lock != a.Lock || own) && len(behind[lock]) < len(before[lock]) {
			list = append(list, lock)
		}
	}
	return list
}

// isAllowed reports whether an aid is allowed.
func isAllowed(r api.Riddle, a api.Aid) bool {
	return len(r.Known[a.Lock]) < 20 && left(r, a) < len(possible(r)[a.Lock]) && len(changed(r, a, false)) == 0
}

// allowed returns the aids about a lock that are allowed.
func allowed(r api.Riddle, pool []api.Aid, lock int) []int {
	var list []int
	for i, a := range pool {
		if a.Lock == lock && isAllowed(r, a) {
			list = append(list, i)
		}
	}
	return list
}

// inOrder returns the allowed aids about a lock, those first that leave the most codes (1) or the fewest (-1).
func inOrder(r api.Riddle, pool []api.Aid, lock, way int) []int {
	list := allowed(r, pool, lock)
	slices.SortStableFunc(list, func(a, b int) int { return way * (left(r, pool[b]) - left(r, pool[a])) })
	return list
}

// first returns the first number of a list, or ErrNone.
func first(list []int) (int, api.Errno) {
	if len(list) == 0 {
		return 0, api.ErrNone
	}
	return list[0], api.OK
}

// ladder returns what is told as long as something is allowed.
func ladder(r api.Riddle, pool []api.Aid, lock int) []int {
	list := inOrder(r, pool, lock, 1)
	if len(list) == 0 {
		return nil
	}
	return append(list[:1:1], ladder(told(r, pool[list[0]]), pool, lock)...)
}

// hides reports whether aids are allowed one after the other.
func hides(r api.Riddle, pool []api.Aid, list []int) bool {
	return len(list) == 0 || isAllowed(r, pool[list[0]]) && hides(told(r, pool[list[0]]), pool, list[1:])
}

// secret returns the wheels that show more than one symbol.
func secret(r api.Riddle, lock int) []int {
	var wheels []int
	for w := range r.Locks[lock].Wheels {
		shown := map[int]bool{}
		for _, code := range possible(r)[lock] {
			shown[code[w]] = true
		}
		if len(shown) > 1 {
			wheels = append(wheels, w)
		}
	}
	return wheels
}

// sure returns the locks for which one code alone is possible.
func sure(r api.Riddle) []int {
	var list []int
	for lock, l := range possible(r) {
		if len(l) == 1 {
			list = append(list, lock)
		}
	}
	return list
}

// sameLists reports whether lists have the same lists in them.
func sameLists(a, b [][]int) bool { return slices.EqualFunc(a, b, slices.Equal[[]int]) }

// maker makes things by chance, the same ones for the same seed.
type maker struct{ *rand.Rand }

// code makes a code; it mostly shows symbols that other locks have, too.
func (k maker) code(l api.CodeLock) []int {
	code := make([]int, l.Wheels)
	for w := range code {
		code[w] = min(k.IntN(l.Symbols), k.IntN(l.Symbols))
	}
	return code
}

// clue makes a clue that holds for a code.
func (k maker) clue(l api.CodeLock, code []int) api.Clue {
	for {
		a, b := k.IntN(l.Wheels), k.IntN(l.Wheels)
		n, m := k.IntN(l.Symbols), k.IntN(l.Wheels+1)
		c := []api.Clue{
			{Kind: api.At, A: a, N: n}, {Kind: api.Sum, A: min(a, b), B: max(a, b), N: n + m}, {Kind: api.Less, A: a, B: b}, {Kind: api.Same, A: a, B: b},
			{Kind: api.Has, N: n, M: m}, {Kind: api.Right, Guess: k.code(l), N: k.IntN(l.Wheels + 1), M: m}, {Kind: api.Remain, A: a, N: 2 + m, M: k.IntN(2)},
		}[k.IntN(7)]
		if c.Not = codes.CheckClue(l, c) == api.OK && !holds(l, c, code); holds(l, c, code) {
			return c
		}
	}
}

// tie makes a tie that holds, if there is one.
func (k maker) tie(r api.Riddle) (t api.Tie, is bool) {
	for range 20 {
		t := api.Tie{LockA: k.IntN(len(r.Locks)), LockB: k.IntN(len(r.Locks))}
		t.WheelA, t.WheelB = k.IntN(r.Locks[t.LockA].Wheels), k.IntN(r.Locks[t.LockB].Wheels)
		if t.LockA != t.LockB && r.Codes[t.LockA][t.WheelA] == r.Codes[t.LockB][t.WheelB] {
			return t, true
		}
	}
	return t, false
}

// riddle makes a riddle with at most 400 lists of codes; most of them have ties.
func (k maker) riddle() api.Riddle {
	var r api.Riddle
	for n := 1; len(r.Locks) == 0 || len(r.Locks) < 5 && k.IntN(4) > 0; {
		l := api.CodeLock{Wheels: 1 + k.IntN(3), Symbols: 2 + k.IntN(4)}
		if n *= len(allCodes(l)); n > 400 {
			break
		}
		r.Locks, r.Codes = append(r.Locks, l), append(r.Codes, k.code(l))
		var known []api.Clue
		for range k.IntN(5) - 2 {
			known = append(known, k.clue(l, r.Codes[len(r.Codes)-1]))
		}
		r.Known = append(r.Known, known)
	}
	for range k.IntN(5) {
		if t, is := k.tie(r); is {
			r.Ties = append(r.Ties, t)
		}
	}
	return r
}

// pool makes aids for a riddle.
func (k maker) pool(r api.Riddle) []api.Aid {
	var pool []api.Aid
	for range k.IntN(9) {
		lock := k.IntN(len(r.Locks))
		pool = append(pool, api.Aid{Lock: lock, Clue: k.clue(r.Locks[lock], r.Codes[lock])})
	}
	return pool
}

// trials runs a test with many riddles and pools.
func trials(t *testing.T, n int, test func(t *testing.T, k maker, r api.Riddle, pool []api.Aid)) {
	t.Helper()
	for seed := range n {
		k := maker{rand.New(rand.NewPCG(uint64(seed), 7))}
		r := k.riddle()
		if e := hints.Check(r); e != api.OK {
			t.Fatalf("seed %d: the riddle %+v is not valid: %d", seed, r, e)
		}
		pool := k.pool(r)
		t.Run(fmt.Sprint(seed), func(t *testing.T) { test(t, k, r, pool) })
	}
}
