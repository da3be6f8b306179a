package puzzles

import (
	"iter"
	"slices"
)

// cheapest returns the first of the lists that cost least, in new memory; it reports whether there is one.
func cheapest(all iter.Seq[[]int], cost func([]int) int) (best []int, is bool) {
	for list := range all {
		if !is || cost(list) < cost(best) {
			best, is = slices.Clone(list), true
		}
	}
	return best, is
}

func sum(list []int) int {
	n := 0
	for _, k := range list {
		n += k
	}
	return n
}
