package hints_test

import (
	"fmt"

	"padlock/api"
	"padlock/hints"
)

// The example of README.md.
func Example() {
	r := api.Riddle{
		Locks: []api.CodeLock{{Wheels: 2, Symbols: 4}, {Wheels: 1, Symbols: 4}},
		Codes: [][]int{{3, 1}, {1}},
		Known: [][]api.Clue{{{Kind: api.Sum, A: 0, B: 1, N: 4}}, nil},
		Ties:  []api.Tie{{LockA: 0, WheelA: 1, LockB: 1, WheelB: 0}},
	}
	n, e := hints.Worlds(r)
	fmt.Println(n, e)
	list, e := hints.Possible(r, 0)
	fmt.Println(list, e)
	aid := api.Aid{Lock: 0, Clue: api.Clue{Kind: api.At, A: 0, N: 3}}
	locks, e := hints.Spoils(r, aid)
	fmt.Println(locks, e)
	r.Ties = nil
	pool := []api.Aid{
		{Clue: api.Clue{Kind: api.Less, A: 1, B: 0}},
		{Clue: api.Clue{Kind: api.At, A: 0, N: 1, Not: true}},
		aid,
	}
	gentle, e := hints.Gentle(r, pool, 0)
	fmt.Println(gentle, e)
	ladder, e := hints.Ladder(r, pool, 0)
	fmt.Println(ladder, e)
	r, e = hints.Tell(r, pool[1])
	fmt.Println(len(r.Known[0]), e)
	wheels, e := hints.Secret(r, 0)
	fmt.Println(wheels, e)
	// Output:
	// 3 0
	// [[1 3] [2 2] [3 1]] 0
	// [1] 0
	// 1 0
	// [1 0] 0
	// 2 0
	// [0 1] 0
}
