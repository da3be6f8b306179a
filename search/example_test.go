package search_test

import (
	"fmt"

	"padlock/api"
	"padlock/search"
)

// The example of README.md.
func Example() {
	x := api.Graph{Positions: make([]api.Position, 5), Edges: [][]api.Edge{
		{{To: 1}, {To: 2}}, {{To: 0}, {To: 3}}, {{To: 0}}, {{To: 4}, {To: 1}}, {},
	}}
	distances := []int{3, 2, 4, 1, 0}
	wrong, e := search.Wrong(x, distances)
	fmt.Println(wrong, e)
	num, den, e := search.Chance(x, distances, 3)
	fmt.Println(num, den, e)
	mind := api.Mind{Memory: 10}
	trail, done, e := search.Search(x, distances, mind, 100)
	fmt.Println(trail, done, e)
	steps, turn, e := search.Worst(x, distances, 10, 100)
	fmt.Println(steps, turn, e)
	num, den, e = search.Mean(x, distances, 10, 100)
	fmt.Println(num, den, e)
	memory, e := search.Needs(x, distances, 100)
	fmt.Println(memory, e)
	position, edge, e := search.Lure(x, distances)
	fmt.Println(position, edge, e)
	// Output:
	// [1 1 0 1 0] 0
	// 1 8 0
	// [0 0 1 0 0 1 0] true 0
	// 9 1 0
	// 8 1 0
	// 6 0
	// 0 1 0
}
