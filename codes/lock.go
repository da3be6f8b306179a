package codes

import (
	"iter"

	"padlock/api"
	"padlock/rules"
)

// lock is a code lock; most of its methods expect it to be valid.
type lock api.CodeLock

// row is what the wheels of a lock show. It is an array so that each copy of it has memory of its own; wheels that the lock does not have show 0.
type row [api.MaxWheels]int

// rowOf expects a code of a valid lock.
func rowOf(code []int) row {
	var r row
	copy(r[:], code)
	return r
}

// code returns a row as a list in new memory.
func (l lock) code(r row) []int {
	list := make([]int, l.Wheels)
	copy(list, r[:])
	return list
}

func (l lock) check() api.Errno {
	if rules.Within(l.Wheels, 1, api.MaxWheels) && rules.Within(l.Symbols, 2, api.MaxSymbols) {
		return api.OK
	}
	return api.ErrLock
}

func (l lock) hasWheel(n int) bool { return rules.Within(n, 0, l.Wheels-1) }

func (l lock) hasSymbol(n int) bool { return rules.Within(n, 0, l.Symbols-1) }

func (l lock) hasCode(code []int) bool {
	return len(code) == l.Wheels && rules.AllWithin(code, 0, l.Symbols-1)
}

func (l lock) checkCodes(codes ...[]int) api.Errno {
	for _, code := range codes {
		if !l.hasCode(code) {
			return api.ErrCode
		}
	}
	return api.OK
}

// all yields all codes of the lock, in order.
func (l lock) all(yield func(row) bool) {
	var r row
	for yield(r) && l.advance(&r) {
	}
}

// advance turns the last wheel that can show a greater symbol; it reports whether there is one.
func (l lock) advance(r *row) bool {
	for w := l.Wheels - 1; w >= 0; w-- {
		if r[w]++; r[w] < l.Symbols {
			return true
		}
		r[w] = 0
	}
	return false
}

// readings yields the codes in which all clues hold, in order.
func (l lock) readings(clues []api.Clue) iter.Seq[row] {
	return func(yield func(row) bool) {
		for r := range l.all {
			if l.broken(clues, r) < 0 && !yield(r) {
				return
			}
		}
	}
}

// counts returns how many wheels show each symbol.
func (l lock) counts(r row) [api.MaxSymbols]int {
	var n [api.MaxSymbols]int
	for w := range l.Wheels {
		n[r[w]]++
	}
	return n
}

func (l lock) answer(code, guess row) (right, common int) {
	for w := range l.Wheels {
		if code[w] == guess[w] {
			right++
		}
	}
	a, b := l.counts(code), l.counts(guess)
	for s := range a {
		common += min(a[s], b[s])
	}
	return right, common - right
}

// leaves returns how many codes of a list have the answer to a guess that most of them have.
func (l lock) leaves(guess row, list []row) int {
	var n [api.MaxWheels + 1][api.MaxWheels + 1]int
	most := 0
	for _, r := range list {
		right, common := l.answer(r, guess)
		n[right][common]++
		most = max(most, n[right][common])
	}
	return most
}
