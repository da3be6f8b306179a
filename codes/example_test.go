package codes_test

import (
	"fmt"

	"padlock/api"
	"padlock/codes"
)

// The example of README.md.
func Example() {
	lock := api.CodeLock{Wheels: 3, Symbols: 4}
	clues := []api.Clue{
		{Kind: api.Sum, A: 0, B: 2, N: 4}, // the three wheels are together 4
		{Kind: api.Less, A: 0, B: 1},      // the wheel 0 shows less than the wheel 1
	}
	n, e := codes.Count(lock, clues)
	fmt.Println(n, e)
	list, e := codes.Readings(lock, clues, 2)
	fmt.Println(list, e)
	c, e := codes.Parse(lock, "at 2 1")
	fmt.Println(c.Kind == api.At, c.A, c.N, e)
	guess, worst, e := codes.Next(lock, clues)
	fmt.Println(guess, worst, e)
	// Output:
	// 5 0
	// [[0 1 3] [0 2 2]] 0
	// true 2 1 0
	// [0 1 3] 1 0
}
