package puzzles_test

import (
	"fmt"

	"padlock/api"
	"padlock/puzzles"
)

// The example of README.md.
func Example() {
	text, e := puzzles.Shift("key to red", 3)
	fmt.Println(text, e)
	shifts, e := puzzles.Crack(text, "key")
	fmt.Println(shifts, e)
	next, degree, e := puzzles.Next([]int{1, 4, 9, 16})
	fmt.Println(next, degree, e)
	sides, e := puzzles.Weigh([]int{1, 3, 9}, 5)
	fmt.Println(sides, e)
	pipes := api.Pipes{Wide: 2, High: 1, Pieces: []int{1, 8}, To: 1}
	turns, e := puzzles.Plumb(pipes)
	fmt.Println(turns, e)
	wet, leaks, e := puzzles.Flows(pipes, turns)
	fmt.Println(wet, leaks, e)
	maze := api.Maze{Wide: 3, High: 2, Walls: make([]bool, 6), To: 5}
	moves, e := puzzles.Escape(maze)
	fmt.Println(moves, e)
	said := []api.Portrait{
		{Kind: api.Left, A: 0, B: 1},
		{Kind: api.Beside, A: 2, B: 0},
		{Kind: api.Hangs, A: 2, N: 1, Not: true},
	}
	hangings, e := puzzles.Hang(3, said, 10)
	fmt.Println(hangings, e)
	seen, e := puzzles.See(api.Sheet{".x"}, api.Sheet{"ab", "cd"}, api.Spot{Turn: 2})
	fmt.Println(seen, e)
	at, e := puzzles.Opens([]int{1, 2, 1, 3}, []int{1, 2, 1, 2, 1, 3})
	fmt.Println(at, e)
	// Output:
	// nhb wr uhg 0
	// [23] 0
	// 25 2 0
	// [-1 -1 1] 0
	// [1 0] 0
	// [0 1] 0 0
	// [1 2] 0
	// [[2 0 1]] 0
	// b 0
	// 6 0
}
