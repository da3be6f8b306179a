package control_test

import (
	"fmt"

	"padlock/api"
	"padlock/control"
)

// The example of README.md.
func Example() {
	p := api.Panel{Sensors: 2, Doors: []api.Gate{{Wait: 3, When: []api.Sense{{Sensor: 0, Value: 1}}}, {Wait: 1}}, Stale: 2, Limit: 8}
	l := []api.Signal{
		{At: 2, Kind: api.Sensed, Number: 0, Value: 1},
		{At: 2, Kind: api.Missed, Number: 0},
	}
	rows, e := control.Play(p, 4, l)
	fmt.Println(rows, e)
	values, ages, e := control.Knows(p, 4, l)
	fmt.Println(values, ages, e)
	first, longest, e := control.Shuts(p, 4, l, 0)
	fmt.Println(first, longest, e)
	n, e := control.Frees(p)
	fmt.Println(n, e)
	n, e = control.Tolerates(p, 0)
	fmt.Println(n, e)
	ticks, e := control.Cut(p, 4, nil, 0)
	fmt.Println(ticks, e)
	tick, door, e := control.Safe(p, 4, l, []int{1, 1, 1, 3})
	fmt.Println(tick, door, e)
	// Output:
	// [1 1 1 0] 0
	// [[0 0] [0 0] [1 0] [1 0]] [[0 0] [0 0] [0 0] [0 0]] 0
	// 0 3 0
	// 10 0
	// 2 0
	// [1 2 3] 0
	// 3 1 0
}
