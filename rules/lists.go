package rules

import (
	"iter"
	"slices"
)

// Lists yields all lists of a length with numbers from least to most, in order. It goes on with the list that it has yielded.
func Lists(length, least, most int) iter.Seq[[]int] {
	return func(yield func([]int) bool) {
		list := slices.Repeat([]int{least}, length)
		for yield(list) && advance(list, least, most) {
		}
	}
}

// advance makes the last number greater that can be so; it reports whether there is one.
func advance(list []int, least, most int) bool {
	for i := len(list) - 1; i >= 0; i-- {
		if list[i]++; list[i] <= most {
			return true
		}
		list[i] = least
	}
	return false
}

// Count returns how many elements a function yields.
func Count[E any](all iter.Seq[E]) int {
	n := 0
	for range all {
		n++
	}
	return n
}
