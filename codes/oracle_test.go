package codes_test

import (
	"math/rand/v2"
	"slices"
	"testing"

	"padlock/api"
)

// This file says once more, in the plainest way, what the chapter says, so that the tests have something to compare with.

// allCodes counts in the base of the symbols.
func allCodes(l api.CodeLock) [][]int {
	total := 1
	for range l.Wheels {
		total *= l.Symbols
	}
	list := make([][]int, total)
	for n := range list {
		code, rest := make([]int, l.Wheels), n
		for w := l.Wheels - 1; w >= 0; w-- {
			code[w], rest = rest%l.Symbols, rest/l.Symbols
		}
		list[n] = code
	}
	return list
}

// pegs crosses out symbols, as players do.
func pegs(code, guess []int) (right, common int) {
	code, guess = slices.Clone(code), slices.Clone(guess)
	for w := range code {
		if code[w] == guess[w] {
			right++
			code[w], guess[w] = -1, -2
		}
	}
	for _, s := range guess {
		if w := slices.Index(code, s); w >= 0 {
			common++
			code[w] = -1
		}
	}
	return right, common
}

func isTrue(c api.Clue, code []int) bool {
	is := false
	switch c.Kind {
	case api.At:
		is = code[c.A] == c.N
	case api.Sum:
		n := 0
		for w, s := range code {
			if c.A <= w && w <= c.B {
				n += s
			}
		}
		is = n == c.N
	case api.Less:
		is = code[c.A] < code[c.B]
	case api.Same:
		is = code[c.A] == code[c.B]
	case api.Has:
		n := 0
		for _, s := range code {
			if s == c.N {
				n++
			}
		}
		is = n == c.M
	case api.Right:
		right, common := pegs(code, c.Guess)
		is = right == c.N && common == c.M
	case api.Remain:
		n := code[c.A]
		for n >= c.N {
			n -= c.N
		}
		is = n == c.M
	}
	if c.Not {
		return !is
	}
	return is
}

func allTrue(clues []api.Clue, code []int) bool {
	return !slices.ContainsFunc(clues, func(c api.Clue) bool { return !isTrue(c, code) })
}

func allReadings(l api.CodeLock, clues []api.Clue) [][]int {
	var list [][]int
	for _, code := range allCodes(l) {
		if allTrue(clues, code) {
			list = append(list, code)
		}
	}
	return list
}

// pick returns the clues with the given numbers.
func pick(clues []api.Clue, numbers []int) []api.Clue {
	var list []api.Clue
	for _, i := range numbers {
		list = append(list, clues[i])
	}
	return list
}

// but returns the numbers below n except i.
func but(n, i int) []int {
	var list []int
	for j := range n {
		if j != i {
			list = append(list, j)
		}
	}
	return list
}

func equalLists(a, b [][]int) bool { return slices.EqualFunc(a, b, slices.Equal) }

// subsets returns all lists of numbers below n, the shorter ones first, those of one length in their order.
func subsets(n int) [][]int {
	var list [][]int
	for m := range 1 << n {
		var s []int
		for i := range n {
			if m&(1<<i) != 0 {
				s = append(s, i)
			}
		}
		list = append(list, s)
	}
	slices.SortFunc(list, func(a, b []int) int {
		if len(a) != len(b) {
			return len(a) - len(b)
		}
		return slices.Compare(a, b)
	})
	return list
}

// trial is a lock with a code and clues of all kinds.
type trial struct {
	lock  api.CodeLock
	code  []int
	clues []api.Clue
	extra api.Clue
}

// trials calls a test with many trials; they are the same ones each time. In every second one the clues hold for the code.
func trials(t *testing.T, most int, test func(t *testing.T, x trial)) {
	t.Helper()
	r := rand.New(rand.NewPCG(7, 11))
	for i := range 400 {
		l := api.CodeLock{Wheels: 1 + r.IntN(3), Symbols: 2 + r.IntN(4)}
		if i%40 == 0 {
			l = api.CodeLock{Wheels: 4, Symbols: 2 + r.IntN(3)}
		}
		x := trial{lock: l, code: someCode(r, l), extra: someClue(r, l)}
		for range r.IntN(most + 1) {
			c := someClue(r, l)
			if i%2 == 0 && !isTrue(c, x.code) {
				c.Not = !c.Not
			}
			x.clues = append(x.clues, c)
		}
		test(t, x)
		if t.Failed() {
			t.Fatalf("trial %d: %+v", i, x)
		}
	}
}

func someCode(r *rand.Rand, l api.CodeLock) []int {
	code := make([]int, l.Wheels)
	for w := range code {
		code[w] = r.IntN(l.Symbols)
	}
	return code
}

func someClue(r *rand.Rand, l api.CodeLock) api.Clue {
	a, b := r.IntN(l.Wheels), r.IntN(l.Wheels)
	c := api.Clue{Kind: 1 + r.IntN(7), Not: r.IntN(3) == 0}
	switch c.Kind {
	case api.At:
		c.A, c.N = a, r.IntN(l.Symbols)
	case api.Sum:
		c.A, c.B, c.N = min(a, b), max(a, b), r.IntN(2*l.Symbols)
	case api.Less, api.Same:
		if a == b { // a lock with one wheel has no such clue
			return api.Clue{Kind: api.At, A: a, N: r.IntN(l.Symbols)}
		}
		c.A, c.B = a, b
	case api.Has:
		c.N, c.M = r.IntN(l.Symbols), r.IntN(l.Wheels+1)
	case api.Right:
		c.Guess, c.N, c.M = someCode(r, l), r.IntN(l.Wheels+1), r.IntN(l.Wheels+1)
	case api.Remain:
		c.A, c.N = a, 2+r.IntN(9)
		c.M = r.IntN(min(c.N, l.Symbols))
	}
	return c
}
