package puzzles

import (
	"padlock/api"
	"padlock/rules"
)

// The sides on which a weight can be.
const (
	leftSide  = -1
	beside    = 0
	rightSide = 1
)

// balance has a load on its left side.
type balance struct {
	weights []int
	load    int
}

func (b balance) isValid() bool {
	return len(b.weights) <= api.MaxWeights && rules.AllWithin(b.weights, 1, api.MaxMass) && rules.Within(b.load, 0, api.MaxMass)
}

// canStand reports whether sides are a weighing.
func (b balance) canStand(sides []int) bool {
	return len(sides) == len(b.weights) && rules.AllWithin(sides, leftSide, rightSide)
}

// tips returns how much heavier the right side is.
func (b balance) tips(sides []int) int {
	n := -b.load
	for i, side := range sides {
		n += side * b.weights[i]
	}
	return n
}

// weighings yields the sides with which neither side is heavier, in order.
func (b balance) weighings(yield func([]int) bool) {
	for sides := range rules.Lists(len(b.weights), leftSide, rightSide) {
		if b.tips(sides) == 0 && !yield(sides) {
			return
		}
	}
}

// used returns how many weights are on the balance.
func used(sides []int) int {
	n := 0
	for _, side := range sides {
		if side != beside {
			n++
		}
	}
	return n
}
