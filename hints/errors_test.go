package hints_test

import (
	"reflect"
	"slices"
	"testing"

	"padlock/api"
	"padlock/hints"
)

const (
	least = -1 << 63
	most  = 1<<63 - 1
)

// given is what functions are given behind a riddle.
type given struct {
	aid    api.Aid
	pool   []api.Aid
	lock   int
	ladder []int
}

// The functions in the order of calls; and those of them with a lock, an aid, a pool.
var (
	called   = []string{"Worlds", "Possible", "Sure", "Tell", "Leaves", "Spoils", "Allowed", "Gentle", "Strong", "Ladder", "Hides", "Secret"}
	withLock = []string{"Possible", "Secret", "Allowed", "Gentle", "Strong", "Ladder"}
	withAid  = []string{"Tell", "Leaves", "Spoils"}
	withPool = []string{"Allowed", "Gentle", "Strong", "Ladder", "Hides"}
)

// calls returns the results of all functions with a riddle but Check.
func calls(r api.Riddle, g given) [][]any {
	var all [][]any
	add := func(results ...any) { all = append(all, results) }
	n, e := hints.Worlds(r)
	add(n, e)
	lists, e := hints.Possible(r, g.lock)
	add(lists, e)
	list, e := hints.Sure(r)
	add(list, e)
	told, e := hints.Tell(r, g.aid)
	add(told, e)
	n, e = hints.Leaves(r, g.aid)
	add(n, e)
	list, e = hints.Spoils(r, g.aid)
	add(list, e)
	list, e = hints.Allowed(r, g.pool, g.lock)
	add(list, e)
	n, e = hints.Gentle(r, g.pool, g.lock)
	add(n, e)
	n, e = hints.Strong(r, g.pool, g.lock)
	add(n, e)
	list, e = hints.Ladder(r, g.pool, g.lock)
	add(list, e)
	is, e := hints.Hides(r, g.pool, g.ladder)
	add(is, e)
	list, e = hints.Secret(r, g.lock)
	add(list, e)
	return all
}

// isError reports whether results are an error, and nothing else.
func isError(results []any, e api.Errno) bool {
	last := len(results) - 1
	for _, x := range results[:last] {
		if !reflect.ValueOf(x).IsZero() {
			return false
		}
	}
	return results[last] == e
}

// expect tests that some functions return an error, and all others OK or ErrNone.
func expect(t *testing.T, what any, r api.Riddle, g given, want api.Errno, names ...string) {
	t.Helper()
	for i, results := range calls(r, g) {
		e := results[len(results)-1]
		if slices.Contains(names, called[i]) {
			if !isError(results, want) {
				t.Errorf("%v, %s: %v, want %d", what, called[i], results, want)
			}
		} else if e != api.OK && e != api.ErrNone {
			t.Errorf("%v, %s: %v", what, called[i], results)
		}
	}
}

// wrong are arguments with which every function has an error of its own behind those of the riddle.
func wrong() given {
	return given{aid: api.Aid{Lock: -1}, pool: make([]api.Aid, 21), lock: -1, ladder: []int{-1}}
}

// right are arguments without an error for the riddle of the examples.
func right() given { return given{aid: pool()[2], pool: pool(), lock: 1, ladder: []int{2, 0}} }

// P7.1: what makes a riddle not valid; R1: ErrHint comes before all other errors.
func TestNoRiddle(t *testing.T) {
	for i, change := range []func(r *api.Riddle){
		func(r *api.Riddle) { *r = api.Riddle{} },
		func(r *api.Riddle) { r.Locks, r.Codes, r.Known, r.Ties = nil, nil, nil, nil },
		func(r *api.Riddle) { *r = simple(9, api.CodeLock{Wheels: 1, Symbols: 2}) },
		func(r *api.Riddle) { r.Locks = r.Locks[:1] },
		func(r *api.Riddle) { r.Locks = append(r.Locks, r.Locks[0]) },
		func(r *api.Riddle) { r.Codes = r.Codes[:1] },
		func(r *api.Riddle) { r.Codes = append(r.Codes, []int{1}) },
		func(r *api.Riddle) { r.Known = r.Known[:1] },
		func(r *api.Riddle) { r.Known = append(r.Known, nil) },
		func(r *api.Riddle) { r.Locks[1].Symbols = 11 },
		func(r *api.Riddle) { r.Locks[1].Wheels = 0 },
		func(r *api.Riddle) { r.Locks[0].Wheels = 5 },
		func(r *api.Riddle) { r.Locks[1].Symbols = 1 },
		func(r *api.Riddle) { r.Codes[0] = []int{3} },
		func(r *api.Riddle) { r.Codes[0] = []int{3, 1, 0} },
		func(r *api.Riddle) { r.Codes[1] = nil },
		func(r *api.Riddle) { r.Codes[0] = []int{4, 1} },
		func(r *api.Riddle) { r.Codes[0] = []int{-1, 1} },
		func(r *api.Riddle) { r.Codes[0] = []int{2, 1} },
		func(r *api.Riddle) { r.Codes[0] = []int{1, 3} },
		func(r *api.Riddle) { r.Codes[1] = []int{2} },
		func(r *api.Riddle) { r.Known[0][0].N = 5 },
		func(r *api.Riddle) { r.Known[0][0].Not = true },
		func(r *api.Riddle) { r.Known[0][0].M = 1 },
		func(r *api.Riddle) { r.Known[0][0].Kind = 8 },
		func(r *api.Riddle) { r.Known[1] = []api.Clue{{Kind: api.At, A: 1, N: 1}} },
		func(r *api.Riddle) { r.Known[1] = []api.Clue{at(0, 1), at(0, 1), at(0, 2)} },
		func(r *api.Riddle) { r.Known[1] = slices.Repeat([]api.Clue{at(0, 1)}, 21) },
		func(r *api.Riddle) { r.Ties = slices.Repeat(r.Ties, 11) },
		func(r *api.Riddle) { r.Ties[0] = api.Tie{LockA: 0, WheelA: 1, LockB: 0, WheelB: 1} },
		func(r *api.Riddle) { r.Codes[0], r.Known[0], r.Ties[0] = []int{1, 1}, nil, api.Tie{WheelB: 1} },
		func(r *api.Riddle) { r.Ties[0].LockB = 2 },
		func(r *api.Riddle) { r.Ties[0].LockB = -1 },
		func(r *api.Riddle) { r.Ties[0].LockA = most },
		func(r *api.Riddle) { r.Ties[0].LockA = least },
		func(r *api.Riddle) { r.Ties[0].WheelB = 1 },
		func(r *api.Riddle) { r.Ties[0].WheelB = -1 },
		func(r *api.Riddle) { r.Ties[0].WheelA = 2 },
		func(r *api.Riddle) { r.Ties[0].WheelA = most },
		func(r *api.Riddle) { r.Ties[0].WheelA = 0 },
		func(r *api.Riddle) { r.Ties = append(r.Ties, api.Tie{LockA: 1, LockB: 0}) },
		func(r *api.Riddle) {
			*r = simple(8, api.CodeLock{Wheels: 4, Symbols: 10})
			r.Ties = []api.Tie{{LockA: 8}}
		},
	} {
		r := riddle()
		change(&r)
		if e := hints.Check(r); e != api.ErrHint {
			t.Errorf("change %d: %d", i, e)
		}
		for _, g := range []given{right(), wrong()} {
			expect(t, i, r, g, api.ErrHint, called...)
		}
	}
}

// ErrMany comes where all known clues leave more than 20000 lists of codes, whatever the ties leave of them; behind ErrHint, and before the errors of what else is given. Check has no such error.
func TestTooManyWorlds(t *testing.T) {
	four, one := api.CodeLock{Wheels: 4, Symbols: 10}, api.CodeLock{Wheels: 1, Symbols: 2}
	g := given{aid: api.Aid{Clue: at(0, 0)}, pool: []api.Aid{{Clue: at(0, 0)}}, ladder: []int{0}}
	bound := pairOf(four, one)
	if n, e := hints.Worlds(bound); n != 20000 || e != api.OK {
		t.Errorf("Worlds = %d, %d", n, e)
	}
	expect(t, "the bound", bound, g, api.OK)
	narrow := pairOf(four, api.CodeLock{Wheels: 1, Symbols: 3})
	narrow.Known[1] = []api.Clue{{Kind: api.At, N: 2, Not: true}}
	if n, e := hints.Worlds(narrow); n != 20000 || e != api.OK {
		t.Errorf("Worlds with a clue = %d, %d", n, e)
	}
	tied := pairOf(four, api.CodeLock{Wheels: 1, Symbols: 3})
	tied.Ties = []api.Tie{{LockB: 1}, {WheelA: 1, LockB: 1}}
	above := pairOf(api.CodeLock{Wheels: 3, Symbols: 3}, api.CodeLock{Wheels: 3, Symbols: 9}) // 27 * 729 = 19683
	expect(t, "below", above, g, api.OK)
	above.Locks = append(above.Locks, one)
	above.Codes, above.Known = append(above.Codes, []int{0}), append(above.Known, nil)
	next := pairOf(api.CodeLock{Wheels: 3, Symbols: 4}, api.CodeLock{Wheels: 3, Symbols: 5}, api.CodeLock{Wheels: 1, Symbols: 3}) // 59 * 113 * 3 = 20001
	next.Known[0], next.Known[1] = butLast(next.Locks[0], 5), butLast(next.Locks[1], 12)
	// The product of eight of them, 10^32, is more than an int holds, and so is a power of 2 whose lowest 64 bits are 0.
	for i, r := range []api.Riddle{tied, above, next, simple(8, four), simple(8, api.CodeLock{Wheels: 4, Symbols: 8}), simple(2, four)} {
		if e := hints.Check(r); e != api.OK {
			t.Errorf("%d: Check = %d", i, e)
		}
		for _, g := range []given{g, wrong()} {
			expect(t, i, r, g, api.ErrMany, called...)
		}
	}
}

// butLast returns clues that hold for all codes of a lock but the last ones.
func butLast(l api.CodeLock, n int) []api.Clue {
	var clues []api.Clue
	list := allCodes(l)
	for _, code := range list[len(list)-n:] {
		clues = append(clues, api.Clue{Kind: api.Right, Guess: code, N: l.Wheels, Not: true})
	}
	return clues
}

// Functions with an aid: ErrHint unless it is valid, then ErrMany if its lock has 20 clues.
func TestNoAid(t *testing.T) {
	for i, a := range []api.Aid{
		{}, {Lock: 2, Clue: at(0, 1)}, {Lock: -1, Clue: at(0, 1)}, {Lock: most, Clue: at(0, 1)}, {Lock: least, Clue: at(0, 1)},
		{Clue: at(2, 1)}, {Clue: at(0, 4)}, {Clue: at(-1, 1)}, {Lock: 1, Clue: at(1, 1)}, {Clue: api.Clue{Kind: api.Less, A: 1, M: 1}}, {Clue: api.Clue{Kind: 9}},
		{Clue: at(0, 2)}, {Clue: api.Clue{Kind: api.At, N: 3, Not: true}}, {Lock: 1, Clue: at(0, 3)}, {Clue: api.Clue{Kind: api.Right, Guess: []int{3}, N: 1}},
	} {
		for _, r := range []api.Riddle{riddle(), full(0, 20)} {
			g := right()
			g.aid = a
			expect(t, i, r, g, api.ErrHint, withAid...)
		}
	}
	g := right()
	expect(t, "a full lock", full(0, 20), g, api.ErrMany, withAid...)
	expect(t, "one clue less", full(0, 19), g, api.OK)
	g.aid = api.Aid{Lock: 1, Clue: at(0, 1)}
	expect(t, "another lock is full", full(0, 20), g, api.OK)
}

// Functions with a pool: ErrMany if there are more than 20 aids, then ErrHint unless all are valid, then ErrArg unless there is the lock.
func TestNoPool(t *testing.T) {
	valid := pool()[0]
	g := right()
	g.pool = slices.Repeat([]api.Aid{valid}, 20)
	expect(t, "20 aids", riddle(), g, api.OK)
	for _, pool := range [][]api.Aid{slices.Repeat([]api.Aid{valid}, 21), make([]api.Aid, 21)} {
		g.pool = pool
		expect(t, "21 aids", riddle(), g, api.ErrMany, withPool...)
	}
	for _, a := range []api.Aid{{}, {Lock: 2, Clue: at(0, 1)}, {Lock: -1, Clue: at(0, 1)}, {Lock: 1, Clue: at(0, 2)}, {Clue: at(0, 1)}} {
		for i := range 3 {
			g = right()
			g.pool[i] = a
			expect(t, a, riddle(), g, api.ErrHint, withPool...)
		}
	}
	for _, lock := range []int{-1, 2, 8, least, most} {
		g = right()
		g.lock = lock
		expect(t, lock, riddle(), g, api.ErrArg, withLock...)
		g.pool[2].Clue.N = 2
		if l, e := hints.Allowed(riddle(), g.pool, lock); l != nil || e != api.ErrHint {
			t.Errorf("Allowed of a wrong aid and the lock %d = %v, %d", lock, l, e)
		}
		if _, e := hints.Ladder(riddle(), make([]api.Aid, 21), lock); e != api.ErrMany {
			t.Errorf("Ladder of 21 aids and the lock %d: %d", lock, e)
		}
	}
}

// Hides: ErrMany of the pool, then ErrArg unless the list has at most 20 numbers of aids, then ErrHint unless all aids are valid.
func TestNoLadder(t *testing.T) {
	odd := pool()
	odd[1].Clue.N = 1
	odd[1].Clue.A = 1
	for _, ladder := range [][]int{{3}, {-1}, {0, 3}, {0, 0, most}, {least}, make([]int, 21)} {
		for i, p := range [][]api.Aid{pool(), odd, nil} {
			if is, e := hints.Hides(free(), p, ladder); is || e != api.ErrArg {
				t.Errorf("Hides of %v and the pool %d = %v, %d", ladder, i, is, e)
			}
		}
		if is, e := hints.Hides(free(), make([]api.Aid, 21), ladder); is || e != api.ErrMany {
			t.Errorf("Hides of %v and 21 aids = %v, %d", ladder, is, e)
		}
	}
	for _, ladder := range [][]int{nil, {0}, {1}, make([]int, 20)} {
		if is, e := hints.Hides(free(), odd, ladder); is || e != api.ErrHint {
			t.Errorf("Hides of %v and a wrong aid = %v, %d", ladder, is, e)
		}
		if _, e := hints.Hides(free(), pool(), ladder); e != api.OK {
			t.Errorf("Hides of %v: %d", ladder, e)
		}
	}
	if is, e := hints.Hides(free(), nil, nil); !is || e != api.OK {
		t.Errorf("Hides of nothing = %v, %d", is, e)
	}
}
