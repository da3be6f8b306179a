package puzzles

import (
	"iter"
	"slices"
)

// lists yields all lists of a length with numbers from least to most, in order. It goes on with the list that it has yielded.
func lists(length, least, most int) iter.Seq[[]int] {
	return func(yield func([]int) bool) {
		list := slices.Repeat([]int{least}, length)
		for yield(list) && advance(list, least, most) {
		}
	}
}

// advance makes the last number greater that can be so; it reports whether there is one.
func advance(list []int, least, most int) bool {
	for i := len(list) - 1; i >= 0; i-- {
		if list[i]++; list[i] <= most {
			return true
		}
		list[i] = least
	}
	return false
}

// count returns how many lists there are.
func count(all iter.Seq[[]int]) int {
	n := 0
	for range all {
		n++
	}
	return n
}

// cheapest returns the first of the lists that cost least, in new memory; it reports whether there is one.
func cheapest(all iter.Seq[[]int], cost func([]int) int) (best []int, is bool) {
	for list := range all {
		if !is || cost(list) < cost(best) {
			best, is = slices.Clone(list), true
		}
	}
	return best, is
}

func sum(list []int) int {
	n := 0
	for _, k := range list {
		n += k
	}
	return n
}
