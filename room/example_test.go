package room_test

import (
	"fmt"

	"padlock/api"
	"padlock/room"
)

// The example of README.md.
func Example() {
	text := "place hall\nplace vault\n" +
		"thing box at hall states 2 start 0\nthing door at hall states 2 start 0\n" +
		"prop key at hall if box=1\nway hall vault if door=1\n" +
		"act open at hall lock 0 sets box=1\nact turn at hall with key sets door=1 spends key\n" +
		"players 1\ngoal door=1\n"
	r, line, e := room.Parse(text)
	fmt.Println(line, e)
	s, _ := room.Begin(r)
	show, _ := room.Show(r, s)
	fmt.Println(show)
	moves, _ := room.Legal(r, s)
	fmt.Println(moves)
	s, at, e := room.Run(r, s, []api.Move{{Kind: api.Do}, {Kind: api.Take}, {Kind: api.Do, Number: 1}})
	done, _ := room.Done(r, s)
	fmt.Println(at, e, done)
	// Output:
	// 0 0
	// box=0 door=0 key@hall 0@hall
	// [{0 4 0}]
	// 0 0 true
}
