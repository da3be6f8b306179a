package codes

import (
	"math/bits"
	"slices"

	"padlock/api"
)

// set is a set of clues by their numbers, bit by bit.
type set uint32

func only(i int) set { return 1 << i }

// upTo returns the set of all numbers below n.
func upTo(n int) set { return 1<<n - 1 }

func (s set) without(i int) set { return s &^ only(i) }

func (s set) size() int { return bits.OnesCount32(uint32(s)) }

func (s set) list() []int {
	var list []int
	for ; s != 0; s &= s - 1 {
		list = append(list, bits.TrailingZeros32(uint32(s)))
	}
	return list
}

// meetsEach reports whether the set has a clue in common with each of the others. A set of clues refuses a code exactly if it has one in common with those that the code misses.
func (s set) meetsEach(others []set) bool {
	for _, o := range others {
		if s&o == 0 {
			return false
		}
	}
	return true
}

// missed returns the clues that do not hold for a code.
func (l lock) missed(clues []api.Clue, r row) set {
	var s set
	for i, c := range clues {
		if !l.holds(c, r) {
			s |= only(i)
		}
	}
	return s
}

// refusals returns what the codes miss that are not readings, each set once.
func (l lock) refusals(clues []api.Clue) []set {
	var list []set
	for r := range l.all {
		if s := l.missed(clues, r); s != 0 {
			list = append(list, s)
		}
	}
	slices.Sort(list)
	return slices.Compact(list)
}

// fewest returns the smallest set of numbers below n that is right, and of several the one whose list comes first.
func fewest(n int, right func(set) bool) (best set, is bool) {
	for m := int(upTo(n)); m >= 0; m-- {
		// Among sets of one size, the list that comes first has the lower number where they differ: with the number 0 as the highest bit this is the greater number.
		s := set(bits.Reverse32(uint32(m)) >> (32 - n))
		if (!is || s.size() < best.size()) && right(s) {
			best, is = s, true
		}
	}
	return best, is
}
