package search_test

import (
	"reflect"
	"testing"

	"padlock/api"
	"padlock/search"
)

// given are the numbers that a search is given.
type given struct{ memory, turn, most, moves int }

// The functions in the order of calls.
var called = []string{"Check", "Wrong", "Widths", "Choices", "Chance", "Search", "Worst", "Mean", "Needs", "Lure", "Harder"}

// calls returns the results of all functions with a map.
func calls(x api.Graph, d []int, y api.Graph, dy []int, n given) [][]any {
	var all [][]any
	add := func(results ...any) { all = append(all, results) }
	add(search.Check(x, d))
	list, e := search.Wrong(x, d)
	add(list, e)
	list, e = search.Widths(x, d)
	add(list, e)
	list, e = search.Choices(x, d)
	add(list, e)
	a, b, e := search.Chance(x, d, n.moves)
	add(a, b, e)
	list, done, e := search.Search(x, d, api.Mind{Memory: n.memory, Turn: n.turn}, n.most)
	add(list, done, e)
	a, b, e = search.Worst(x, d, n.memory, n.most)
	add(a, b, e)
	a, b, e = search.Mean(x, d, n.memory, n.most)
	add(a, b, e)
	a, e = search.Needs(x, d, n.most)
	add(a, e)
	a, b, e = search.Lure(x, d)
	add(a, b, e)
	a, e = search.Harder(x, y, d, dy, n.memory, n.most)
	add(a, e)
	return all
}

// isError reports whether results are an error, and nothing else.
func isError(results []any, e api.Errno) bool {
	last := len(results) - 1
	for _, x := range results[:last] {
		if !reflect.ValueOf(x).IsZero() {
			return false
		}
	}
	return results[last] == e
}

// P6.2 and P6.3: numbers have to be within their bounds; behind ErrModel, and before ErrNone.
func TestNumbers(t *testing.T) {
	a := newAtlas([][]int{{}})
	takes := func(memory, turn, most, moves bool) map[string]bool {
		return map[string]bool{"Chance": moves, "Search": memory && turn && most, "Worst": memory && most, "Mean": memory && most, "Needs": most, "Harder": memory && most}
	}
	for _, c := range []struct {
		n     given
		takes map[string]bool
	}{
		{given{0, 0, 0, 0}, takes(true, true, true, true)}, {given{200, 99, 2000, 20}, takes(true, true, true, true)},
		{given{-1, 0, 0, 0}, takes(false, true, true, true)}, {given{201, 0, 0, 0}, takes(false, true, true, true)}, {given{least, 0, 0, 0}, takes(false, true, true, true)}, {given{most, 0, 0, 0}, takes(false, true, true, true)},
		{given{0, -1, 0, 0}, takes(true, false, true, true)}, {given{0, 100, 0, 0}, takes(true, false, true, true)}, {given{0, least, 0, 0}, takes(true, false, true, true)}, {given{0, most, 0, 0}, takes(true, false, true, true)},
		{given{0, 0, -1, 0}, takes(true, true, false, true)}, {given{0, 0, 2001, 0}, takes(true, true, false, true)}, {given{0, 0, least, 0}, takes(true, true, false, true)}, {given{0, 0, most, 0}, takes(true, true, false, true)},
		{given{0, 0, 0, -1}, takes(true, true, true, false)}, {given{0, 0, 0, 21}, takes(true, true, true, false)},
		{given{-1, -1, -1, -1}, takes(false, false, false, false)},
	} {
		for i, results := range calls(a.graph(), a.distances, a.graph(), a.distances, c.n) {
			takes, is := c.takes[called[i]]
			if e := results[len(results)-1]; is && (e == api.ErrArg) == takes {
				t.Errorf("%s with %v: %v", called[i], c.n, results)
			} else if is && !takes && !isError(results, api.ErrArg) {
				t.Errorf("%s with %v: %v", called[i], c.n, results)
			}
		}
	}
}
