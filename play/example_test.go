package play_test

import (
	"fmt"

	"padlock/api"
	"padlock/play"
)

// The example of README.md.
func Example() {
	text := "place hall\nplace vault\n" +
		"thing box at hall states 2 start 0\nthing door at hall states 2 start 0\n" +
		"prop key at hall if box=1\nway hall vault if door=1\n" +
		"act open at hall lock 0 sets box=1\nact turn at hall with key sets door=1 spends key\n" +
		"players 1\ngoal door=1\n"
	g, line, e := play.Parse(text + "codelock 2 4 31\n" +
		"note leaf at hall lock 0 sum 0 1 4\nnote back at hall if box=0 lock 0 less 1 0\nnote card at vault\n" +
		"tries 1\n")
	fmt.Println(line, e)
	p, _ := play.Begin(g)
	n, _ := play.Readings(g, p, 0)
	moves, _ := play.Can(g, p)
	fmt.Println(p.Read, n, moves)
	p, at, e := play.Run(g, p, []api.Move{{Kind: api.Do}, {Kind: api.Take}, {Kind: api.Do, Number: 1}})
	fmt.Println(at, e)
	notes, _ := play.Reads(g, p, api.Move{Kind: api.Go})
	fmt.Println(notes)
	notes, _ = play.Needed(g, 0)
	fmt.Println(notes)
	// Output:
	// 0 0
	// [true true false] 1 [{0 4 0}]
	// 0 0
	// [2]
	// [0 1]
}
