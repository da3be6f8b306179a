package prove_test

import (
	"fmt"

	"padlock/play"
	"padlock/prove"
)

// The example of README.md.
func Example() {
	g, _, _ := play.Parse("place hall\nplace vault\n" +
		"thing box at hall states 2 start 0\nthing door at hall states 2 start 0\n" +
		"prop key at hall if box=1\nway hall vault if door=1\n" +
		"act open at hall lock 0 sets box=1\nact turn at hall with key sets door=1 spends key\n" +
		"players 1\ngoal door=1\ncodelock 2 4 31\n" +
		"note leaf at hall lock 0 sum 0 1 4\nnote back at hall if box=0 lock 0 less 1 0\nnote card at vault\n" +
		"tries 1\n")
	moves, e := prove.Solve(g)
	fmt.Println(moves, e)
	n, e := prove.Count(g)
	fmt.Println(n, e)
	acts, e := prove.Essential(g)
	fmt.Println(acts, e)
	moves, found, e := prove.Dead(g)
	fmt.Println(moves, found, e)
	x, e := prove.Explore(g)
	fmt.Println(len(x.Positions), e)
	distances, e := prove.Distances(g)
	fmt.Println(distances, e)
	ok, e := prove.Proves(g, x, distances)
	fmt.Println(ok, e)
	g.Room.Players = 2
	rounds, e := prove.Rounds(g)
	fmt.Println(rounds, e)
	// Output:
	// [{0 4 0} {0 2 0} {0 4 1}] 0
	// 1 0
	// [0 1] 0
	// [] false 0
	// 6 0
	// [3 2 1 0 0 0] 0
	// true 0
	// 2 0
}
