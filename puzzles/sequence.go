package puzzles

import (
	"slices"

	"padlock/api"
	"padlock/rules"
)

func isSequence(l []int) bool {
	return rules.Within(len(l), 2, api.MaxTerms) && rules.AllWithin(l, -api.MaxMass, api.MaxMass)
}

// following returns the element behind a sequence: it is as much greater than the last one as the differences, which go on likewise, say.
func following(l []int) (next, degree int, is bool) {
	for ; len(l) >= 2; l = differences(l) {
		next += l[len(l)-1]
		if isConstant(l) {
			return next, degree, true
		}
		degree++
	}
	return 0, 0, false
}

func isConstant(l []int) bool {
	return !slices.ContainsFunc(l, func(n int) bool { return n != l[0] })
}

// differences expects a list that is not empty.
func differences(l []int) []int {
	list := make([]int, len(l)-1)
	for i := range list {
		list[i] = l[i+1] - l[i]
	}
	return list
}
