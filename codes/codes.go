// Package codes describes code locks and clues: which codes the clues allow, which clues are needed, and what to try next. See shared/doc/01-codes.md.
package codes

import (
	"slices"

	"padlock/api"
	"padlock/rules"
)

const (
	// maxPool is how many clues Choose takes: it looks at all sets of them.
	maxPool = 12
	// maxTried is how many readings Next takes: it holds each against each.
	maxTried = 200
)

// Check returns ErrLock unless a lock is valid.
func Check(l api.CodeLock) api.Errno { return lock(l).check() }

// CheckClue returns ErrClue unless a clue is valid.
func CheckClue(l api.CodeLock, c api.Clue) api.Errno {
	return rules.First(lock(l).check(), lock(l).checkClue(c))
}

// CheckCode returns ErrCode unless a code is one.
func CheckCode(l api.CodeLock, code []int) api.Errno {
	return rules.First(lock(l).check(), lock(l).checkCodes(code))
}

// Answer returns how much a guess and a code have in common.
func Answer(l api.CodeLock, code, guess []int) (right, common int, e api.Errno) {
	k := lock(l)
	if e := rules.First(k.check(), k.checkCodes(code, guess)); e != api.OK {
		return 0, 0, e
	}
	right, common = k.answer(rowOf(code), rowOf(guess))
	return right, common, api.OK
}

// Holds reports whether a clue holds for a code.
func Holds(l api.CodeLock, c api.Clue, code []int) (bool, api.Errno) {
	k := lock(l)
	if e := rules.First(k.check(), k.checkClue(c), k.checkCodes(code)); e != api.OK {
		return false, e
	}
	return k.holds(c, rowOf(code)), api.OK
}

// Fits reports whether a code is a reading of clues; the clue is the first one that does not hold, or -1.
func Fits(l api.CodeLock, clues []api.Clue, code []int) (clue int, is bool, e api.Errno) {
	k := lock(l)
	if e := rules.First(k.check(), k.checkClues(clues, api.MaxClues), k.checkCodes(code)); e != api.OK {
		return 0, false, e
	}
	clue = k.broken(clues, rowOf(code))
	return clue, clue < 0, api.OK
}

// Count returns how many readings there are.
func Count(l api.CodeLock, clues []api.Clue) (int, api.Errno) {
	k := lock(l)
	if e := rules.First(k.check(), k.checkClues(clues, api.MaxClues)); e != api.OK {
		return 0, e
	}
	return rules.Count(k.readings(clues)), api.OK
}

// Readings returns the first readings.
func Readings(l api.CodeLock, clues []api.Clue, most int) ([][]int, api.Errno) {
	k := lock(l)
	if e := rules.First(k.check(), k.checkClues(clues, api.MaxClues)); e != api.OK {
		return nil, e
	}
	if !rules.Within(most, 1, api.MaxList) {
		return nil, api.ErrArg
	}
	var list [][]int
	for r := range k.readings(clues) {
		list = append(list, k.code(r))
		if len(list) == most {
			break
		}
	}
	return list, api.OK
}

// Shows returns the symbols that each wheel shows in some reading.
func Shows(l api.CodeLock, clues []api.Clue) ([][]int, api.Errno) {
	k := lock(l)
	if e := rules.First(k.check(), k.checkClues(clues, api.MaxClues)); e != api.OK {
		return nil, e
	}
	var shown [api.MaxWheels][api.MaxSymbols]bool
	for r := range k.readings(clues) {
		for w := range k.Wheels {
			shown[w][r[w]] = true
		}
	}
	list := make([][]int, k.Wheels)
	for w := range list {
		for s, is := range shown[w] {
			if is {
				list[w] = append(list[w], s)
			}
		}
	}
	return list, api.OK
}

// Implies reports whether a clue holds in all readings of others; if not, the code is the first reading in which it does not.
func Implies(l api.CodeLock, clues []api.Clue, c api.Clue) (code []int, is bool, e api.Errno) {
	k := lock(l)
	if e := rules.First(k.check(), k.checkClues(clues, api.MaxClues), k.checkClue(c)); e != api.OK {
		return nil, false, e
	}
	for r := range k.readings(clues) {
		if !k.holds(c, r) {
			return k.code(r), false, api.OK
		}
	}
	return nil, true, api.OK
}

// Idle returns the clues without which nothing changes.
func Idle(l api.CodeLock, clues []api.Clue) ([]int, api.Errno) {
	k := lock(l)
	if e := rules.First(k.check(), k.checkClues(clues, api.MaxClues)); e != api.OK {
		return nil, e
	}
	refusals, all := k.refusals(clues), upTo(len(clues))
	var idle set
	for i := range clues {
		if all.without(i).meetsEach(refusals) {
			idle |= only(i)
		}
	}
	return idle.list(), api.OK
}

// Core returns clues that have the readings of all.
func Core(l api.CodeLock, clues []api.Clue) ([]int, api.Errno) {
	k := lock(l)
	if e := rules.First(k.check(), k.checkClues(clues, api.MaxClues)); e != api.OK {
		return nil, e
	}
	refusals, core := k.refusals(clues), upTo(len(clues))
	for i := range clues {
		if core.without(i).meetsEach(refusals) {
			core = core.without(i)
		}
	}
	return core.list(), api.OK
}

// Pair returns two different readings: the first one and the last one.
func Pair(l api.CodeLock, clues []api.Clue) (a, b []int, e api.Errno) {
	k := lock(l)
	if e := rules.First(k.check(), k.checkClues(clues, api.MaxClues)); e != api.OK {
		return nil, nil, e
	}
	var low, high row
	n := 0
	for r := range k.readings(clues) {
		if n == 0 {
			low = r
		}
		high = r
		n++
	}
	if n < 2 {
		return nil, nil, api.ErrNone
	}
	return k.code(low), k.code(high), api.OK
}

// Choose returns the fewest clues for which a code is the only reading.
func Choose(l api.CodeLock, pool []api.Clue, code []int) ([]int, api.Errno) {
	k := lock(l)
	if e := rules.First(k.check(), k.checkClues(pool, maxPool), k.checkCodes(code)); e != api.OK {
		return nil, e
	}
	target := rowOf(code)
	untrue := k.missed(pool, target)
	var others []set
	for r := range k.all {
		if r != target {
			others = append(others, k.missed(pool, r))
		}
	}
	slices.Sort(others)
	others = slices.Compact(others)
	choice, is := fewest(len(pool), func(s set) bool { return s&untrue == 0 && s.meetsEach(others) })
	if !is {
		return nil, api.ErrNone
	}
	return choice.list(), api.OK
}

// Next returns a reading to be tried next, and how many readings are left behind it at the worst.
func Next(l api.CodeLock, clues []api.Clue) (guess []int, worst int, e api.Errno) {
	k := lock(l)
	if e := rules.First(k.check(), k.checkClues(clues, api.MaxClues)); e != api.OK {
		return nil, 0, e
	}
	var list []row
	for r := range k.readings(clues) {
		if len(list) == maxTried {
			return nil, 0, api.ErrMany
		}
		list = append(list, r)
	}
	if len(list) == 0 {
		return nil, 0, api.ErrNone
	}
	best := list[0]
	worst = k.leaves(best, list)
	for _, r := range list[1:] {
		if n := k.leaves(r, list); n < worst {
			best, worst = r, n
		}
	}
	return k.code(best), worst, api.OK
}

// Format returns a clue as text.
func Format(l api.CodeLock, c api.Clue) (string, api.Errno) {
	k := lock(l)
	if e := rules.First(k.check(), k.checkClue(c)); e != api.OK {
		return "", e
	}
	return write(c), api.OK
}

// Parse reads a clue.
func Parse(l api.CodeLock, text string) (api.Clue, api.Errno) {
	k := lock(l)
	if e := k.check(); e != api.OK {
		return api.Clue{}, e
	}
	if len(text) > api.MaxText {
		return api.Clue{}, api.ErrMany
	}
	c, ok := read(text)
	if !ok {
		return api.Clue{}, api.ErrForm
	}
	if e := k.checkClue(c); e != api.OK {
		return api.Clue{}, e
	}
	return c, api.OK
}
