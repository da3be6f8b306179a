package hints_test

import (
	"reflect"
	"slices"
	"testing"

	"padlock/api"
	"padlock/hints"
)

// at says that a wheel shows a symbol.
func at(wheel, symbol int) api.Clue { return api.Clue{Kind: api.At, A: wheel, N: symbol} }

// not is the opposite of at.
func not(wheel, symbol int) api.Clue { return api.Clue{Kind: api.At, A: wheel, N: symbol, Not: true} }

// riddle is that of the chapter's examples.
func riddle() api.Riddle {
	return api.Riddle{
		Locks: []api.CodeLock{{Wheels: 2, Symbols: 4}, {Wheels: 1, Symbols: 4}},
		Codes: [][]int{{3, 1}, {1}},
		Known: [][]api.Clue{{{Kind: api.Sum, A: 0, B: 1, N: 4}}, nil},
		Ties:  []api.Tie{{LockA: 0, WheelA: 1, LockB: 1, WheelB: 0}},
	}
}

// free is the riddle without the tie.
func free() api.Riddle {
	r := riddle()
	r.Ties = nil
	return r
}

// pool are the aids of the examples.
func pool() []api.Aid {
	return []api.Aid{{Clue: api.Clue{Kind: api.Less, A: 1, B: 0}}, {Clue: not(0, 1)}, {Clue: at(0, 3)}}
}

// simple has so many locks of one kind, of which nothing is known; their codes are zeros.
func simple(n int, l api.CodeLock) api.Riddle { return pairOf(slices.Repeat([]api.CodeLock{l}, n)...) }

// pairOf has some locks of which nothing is known; their codes are zeros.
func pairOf(locks ...api.CodeLock) api.Riddle {
	r := api.Riddle{Locks: locks, Known: make([][]api.Clue, len(locks))}
	for _, l := range locks {
		r.Codes = append(r.Codes, make([]int, l.Wheels))
	}
	return r
}

// full is the riddle of the examples with so many clues about a lock that say nothing new.
func full(lock, clues int) api.Riddle {
	r := riddle()
	for len(r.Known[lock]) < clues {
		r.Known[lock] = append(r.Known[lock], api.Clue{Kind: api.Sum, N: 50, Not: true})
	}
	return r
}

// same tests a list that a function returns without an error.
func same(t *testing.T, what string, got []int, e api.Errno, want ...int) {
	t.Helper()
	if e != api.OK || !slices.Equal(got, want) {
		t.Errorf("%s = %v, %d, want %v", what, got, e, want)
	}
}

// P7.1: what is valid.
func TestCheck(t *testing.T) {
	eight := simple(8, api.CodeLock{Wheels: 1, Symbols: 2})
	eight.Ties = slices.Repeat([]api.Tie{{LockA: 7, LockB: 0}, {LockA: 0, LockB: 7}}, 5)
	empty := free()
	empty.Known[1], empty.Ties = []api.Clue{}, []api.Tie{}
	for i, r := range []api.Riddle{
		riddle(), free(), empty, full(0, 20), full(1, 20), eight,
		simple(1, api.CodeLock{Wheels: 4, Symbols: 10}), simple(1, api.CodeLock{Wheels: 1, Symbols: 2}), simple(8, api.CodeLock{Wheels: 4, Symbols: 10}),
	} {
		if e := hints.Check(r); e != api.OK {
			t.Errorf("%d: %d", i, e)
		}
	}
}

// P7.1: worlds and what is possible in them.
func TestWorlds(t *testing.T) {
	chain := simple(3, api.CodeLock{Wheels: 1, Symbols: 5})
	chain.Ties = []api.Tie{{LockA: 2, LockB: 1}, {LockA: 0, LockB: 1}}
	chain.Known[0] = []api.Clue{not(0, 3)}
	chain.Known[2] = []api.Clue{not(0, 1)}
	uneven := pairOf(api.CodeLock{Wheels: 1, Symbols: 10}, api.CodeLock{Wheels: 2, Symbols: 2})
	uneven.Ties = []api.Tie{{LockA: 1, WheelA: 1, LockB: 0}}
	for i, c := range []struct {
		r        api.Riddle
		worlds   int
		possible [][][]int
		sure     []int
	}{
		{riddle(), 3, [][][]int{{{1, 3}, {2, 2}, {3, 1}}, {{1}, {2}, {3}}}, nil},
		{free(), 12, [][][]int{{{1, 3}, {2, 2}, {3, 1}}, {{0}, {1}, {2}, {3}}}, nil},
		{chain, 3, [][][]int{{{0}, {2}, {4}}, {{0}, {2}, {4}}, {{0}, {2}, {4}}}, nil},
		{uneven, 4, [][][]int{{{0}, {1}}, {{0, 0}, {0, 1}, {1, 0}, {1, 1}}}, nil},
		{told(riddle(), api.Aid{Clue: at(0, 3)}), 1, [][][]int{{{3, 1}}, {{1}}}, []int{0, 1}},
		{told(free(), api.Aid{Clue: at(0, 3)}), 4, [][][]int{{{3, 1}}, {{0}, {1}, {2}, {3}}}, []int{0}},
		{told(free(), api.Aid{Lock: 1, Clue: at(0, 1)}), 3, [][][]int{{{1, 3}, {2, 2}, {3, 1}}, {{1}}}, []int{1}},
	} {
		if n, e := hints.Worlds(c.r); n != c.worlds || e != api.OK {
			t.Errorf("%d: Worlds = %d, %d", i, n, e)
		}
		for lock, want := range c.possible {
			if l, e := hints.Possible(c.r, lock); !sameLists(l, want) || e != api.OK {
				t.Errorf("%d: Possible(%d) = %v, %d", i, lock, l, e)
			}
		}
		list, e := hints.Sure(c.r)
		same(t, "Sure", list, e, c.sure...)
	}
	if l, e := hints.Possible(simple(1, api.CodeLock{Wheels: 4, Symbols: 10}), 0); len(l) != 10000 || e != api.OK || !slices.IsSortedFunc(l, slices.Compare[[]int]) {
		t.Errorf("Possible of a large lock has %d codes, %d", len(l), e)
	}
}

// P7.2: the clue stands behind the known ones of its lock, and nothing else changes.
func TestTell(t *testing.T) {
	for _, r := range []api.Riddle{riddle(), free(), full(0, 19), full(1, 19)} {
		for _, a := range []api.Aid{pool()[0], {Lock: 1, Clue: not(0, 3)}, {Clue: api.Clue{Kind: api.Right, Guess: []int{1, 1}, N: 1}}, {Clue: r.Known[0][0]}} {
			if now, e := hints.Tell(r, a); e != api.OK || !reflect.DeepEqual(now, told(r, a)) {
				t.Errorf("Tell of %v = %v, %d", a, now, e)
			}
		}
	}
}

// P7.2: the examples, and an aid that says nothing new.
func TestAids(t *testing.T) {
	for i, c := range []struct {
		r      api.Riddle
		aid    api.Aid
		leaves int
		spoils []int
	}{
		{riddle(), pool()[2], 1, []int{1}}, {free(), pool()[2], 1, nil}, {free(), pool()[0], 1, nil}, {free(), pool()[1], 2, nil},
		{riddle(), api.Aid{Lock: 1, Clue: not(0, 3)}, 2, []int{0}}, {riddle(), api.Aid{Lock: 1, Clue: not(0, 0)}, 3, nil}, {free(), api.Aid{Lock: 1, Clue: not(0, 0)}, 3, nil},
		{riddle(), api.Aid{Clue: riddle().Known[0][0]}, 3, nil},
	} {
		if n, e := hints.Leaves(c.r, c.aid); n != c.leaves || e != api.OK {
			t.Errorf("%d: Leaves = %d, %d", i, n, e)
		}
		list, e := hints.Spoils(c.r, c.aid)
		same(t, "Spoils", list, e, c.spoils...)
	}
	star := simple(4, api.CodeLock{Wheels: 2, Symbols: 3})
	star.Ties = []api.Tie{{LockA: 3, LockB: 1}, {LockA: 1, LockB: 0, WheelB: 1}}
	list, e := hints.Spoils(star, api.Aid{Lock: 1, Clue: at(0, 0)})
	same(t, "Spoils of a lock with several ties", list, e, 0, 3)
	list, e = hints.Spoils(star, api.Aid{Lock: 1, Clue: at(1, 0)})
	same(t, "Spoils of a wheel without a tie", list, e)
}

// P7.2 and P7.3: the examples.
func TestPool(t *testing.T) {
	list, e := hints.Allowed(riddle(), pool(), 0)
	same(t, "Allowed", list, e)
	list, e = hints.Ladder(riddle(), pool(), 0)
	same(t, "Ladder", list, e)
	list, e = hints.Allowed(free(), pool(), 0)
	same(t, "Allowed without the tie", list, e, 0, 1, 2)
	list, e = hints.Ladder(free(), pool(), 0)
	same(t, "Ladder without the tie", list, e, 1, 0)
	gentle, e := hints.Gentle(free(), pool(), 0)
	strong, e2 := hints.Strong(free(), pool(), 0)
	if gentle != 1 || strong != 0 || e != api.OK || e2 != api.OK {
		t.Errorf("Gentle = %d, %d; Strong = %d, %d", gentle, e, strong, e2)
	}
	both := append(pool(), api.Aid{Lock: 1, Clue: at(0, 1)}, api.Aid{Lock: 1, Clue: not(0, 0)}, api.Aid{Lock: 1, Clue: not(0, 2)})
	list, e = hints.Allowed(free(), both, 1)
	same(t, "Allowed of the other lock", list, e, 3, 4, 5)
	list, e = hints.Ladder(free(), both, 1)
	same(t, "Ladder of the other lock", list, e, 4, 5, 3)
	// Also about a lock with a tie something may be told, if it is about another wheel.
	tied := simple(2, api.CodeLock{Wheels: 2, Symbols: 3})
	tied.Ties = []api.Tie{{LockA: 1, LockB: 0}}
	wheels := []api.Aid{{Lock: 1, Clue: not(0, 1)}, {Lock: 1, Clue: not(1, 1)}, {Lock: 1, Clue: api.Clue{Kind: api.Same, A: 0, B: 1}}, {Lock: 1, Clue: api.Clue{Kind: api.Sum, B: 1}}}
	list, e = hints.Allowed(tied, wheels, 1)
	same(t, "Allowed with a tie", list, e, 1, 2)
	list, e = hints.Ladder(tied, wheels, 1)
	same(t, "Ladder with a tie", list, e, 1)
	for _, r := range []api.Riddle{riddle(), free()} {
		for _, p := range [][]api.Aid{nil, {}, {{Clue: r.Known[0][0]}}, {{Lock: 1, Clue: not(0, 0)}}} {
			n, e := hints.Gentle(r, p, 0)
			m, e2 := hints.Strong(r, p, 0)
			if n != 0 || e != api.ErrNone || m != 0 || e2 != api.ErrNone {
				t.Errorf("of %v Gentle = %d, %d; Strong = %d, %d", p, n, e, m, e2)
			}
			list, e := hints.Ladder(r, p, 0)
			same(t, "Ladder of nothing", list, e)
		}
	}
}

// P7.3: of several equal aids the first one.
func TestFirstOfEqual(t *testing.T) {
	r := simple(1, api.CodeLock{Wheels: 2, Symbols: 4})
	p := []api.Aid{{Clue: at(1, 0)}, {Clue: not(0, 3)}, {Clue: not(1, 3)}, {Clue: not(0, 3)}, {Clue: at(0, 0)}}
	gentle, e := hints.Gentle(r, p, 0)
	strong, e2 := hints.Strong(r, p, 0)
	if gentle != 1 || strong != 0 || e != api.OK || e2 != api.OK {
		t.Errorf("Gentle = %d, %d; Strong = %d, %d", gentle, e, strong, e2)
	}
	list, e := hints.Ladder(r, p, 0)
	same(t, "Ladder", list, e, 1, 2, 0, 4)
}

// P7.2 to P7.4: a lock takes no more than 20 clues, also those that a ladder has told before.
func TestFullLock(t *testing.T) {
	r := full(1, 18)
	r.Ties = nil
	p := []api.Aid{{Lock: 1, Clue: not(0, 0)}, {Lock: 1, Clue: not(0, 2)}, {Lock: 1, Clue: not(0, 3)}, {Clue: at(0, 3)}}
	list, e := hints.Allowed(r, p, 1)
	same(t, "Allowed with 18 clues", list, e, 0, 1, 2)
	list, e = hints.Ladder(r, p, 1)
	same(t, "Ladder with 18 clues", list, e, 0, 1)
	for _, c := range []struct {
		ladder []int
		want   bool
	}{{[]int{0, 1}, true}, {[]int{2, 0}, true}, {[]int{0, 1, 2}, false}, {[]int{3, 0, 1}, true}, {[]int{0, 1, 3}, true}} {
		if is, e := hints.Hides(r, p, c.ladder); is != c.want || e != api.OK {
			t.Errorf("Hides of %v with 18 clues = %v, %d", c.ladder, is, e)
		}
	}
	r = full(1, 20)
	r.Ties = nil
	list, e = hints.Allowed(r, p, 1)
	same(t, "Allowed with 20 clues", list, e)
	list, e = hints.Ladder(r, p, 1)
	same(t, "Ladder with 20 clues", list, e)
	if n, e := hints.Gentle(r, p, 1); n != 0 || e != api.ErrNone {
		t.Errorf("Gentle with 20 clues = %d, %d", n, e)
	}
	if n, e := hints.Strong(r, p, 1); n != 0 || e != api.ErrNone {
		t.Errorf("Strong with 20 clues = %d, %d", n, e)
	}
	if is, e := hints.Hides(r, p, []int{0}); is || e != api.OK {
		t.Errorf("Hides with 20 clues = %v, %d", is, e)
	}
	list, e = hints.Allowed(r, p, 0)
	same(t, "Allowed of the other lock", list, e, 3)
}

// P7.4: each aid has to help where it is told, and must not spoil another lock.
func TestHides(t *testing.T) {
	p := append(pool(), api.Aid{Lock: 1, Clue: not(0, 0)}, api.Aid{Lock: 1, Clue: not(0, 3)}, api.Aid{Lock: 1, Clue: at(0, 1)})
	for _, c := range []struct {
		r      api.Riddle
		ladder []int
		want   bool
	}{
		{free(), nil, true}, {free(), []int{}, true}, {free(), []int{1, 0}, true}, {free(), []int{2}, true}, {free(), []int{0, 1}, false}, {free(), []int{1, 1}, false},
		{free(), []int{1, 3, 0, 4, 5}, true}, {free(), []int{5, 0}, true}, {free(), []int{5, 3}, false}, {free(), []int{1, 3, 2, 4, 0}, false},
		{riddle(), nil, true}, {riddle(), []int{2}, false}, {riddle(), []int{3}, false}, {riddle(), []int{5}, false},
	} {
		if is, e := hints.Hides(c.r, p, c.ladder); is != c.want || e != api.OK {
			t.Errorf("Hides of %v = %v, %d", c.ladder, is, e)
		}
	}
}

// P7.4: the examples, and a lock that is sure.
func TestSecret(t *testing.T) {
	for lock, want := range [][]int{{0, 1}, {0}} {
		list, e := hints.Secret(riddle(), lock)
		same(t, "Secret", list, e, want...)
		list, e = hints.Secret(told(riddle(), pool()[2]), lock)
		same(t, "Secret of a sure lock", list, e)
	}
	r := simple(2, api.CodeLock{Wheels: 4, Symbols: 3})
	r.Known[0] = []api.Clue{at(1, 0), {Kind: api.Same, A: 0, B: 1}}
	r.Known[1] = []api.Clue{{Kind: api.Sum, A: 0, B: 3, N: 1}, not(2, 1)}
	r.Codes[1] = []int{0, 0, 0, 1}
	list, e := hints.Secret(r, 0)
	same(t, "Secret", list, e, 2, 3)
	list, e = hints.Secret(r, 1)
	same(t, "Secret", list, e, 0, 1, 3)
}
