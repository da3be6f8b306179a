// Package rules contains what the layers need to keep to the rules of shared/DOC.md: the order of errors, limits, letters, numbers and lists of them.
package rules

import (
	"strconv"

	"padlock/api"
)

// First returns the first error of several (R1). All of them are computed before, so none may rely on the absence of another.
func First(errors ...api.Errno) api.Errno {
	for _, e := range errors {
		if e != api.OK {
			return e
		}
	}
	return api.OK
}

// Unless returns OK if something is as it should be, and otherwise an error.
func Unless(is bool, e api.Errno) api.Errno {
	if is {
		return api.OK
	}
	return e
}

// Within reports whether a number is from least to most (R7).
func Within(n, least, most int) bool { return least <= n && n <= most }

// AllWithin reports whether all numbers of a list are from least to most (R7).
func AllWithin(list []int, least, most int) bool {
	for _, n := range list {
		if !Within(n, least, most) {
			return false
		}
	}
	return true
}

// IsOf reports whether a number is that of an element of a list.
func IsOf[E any](list []E, n int) bool { return Within(n, 0, len(list)-1) }

// Numbers returns the numbers from 0 to n-1 that a function accepts, in ascending order.
func Numbers(n int, accepts func(int) bool) []int {
	var list []int
	for i := range n {
		if accepts(i) {
			list = append(list, i)
		}
	}
	return list
}

// AreLetters reports whether a text has no other bytes than those from a to z.
func AreLetters(text string) bool {
	for i := range len(text) {
		if !Within(int(text[i]), 'a', 'z') {
			return false
		}
	}
	return true
}

// Number reads a number of one to most digits without a leading zero (R9). It never overflows with most up to 18.
func Number(word string, most int) (n int, ok bool) {
	list, ok := Digits(word, most)
	if !ok || len(list) > 1 && list[0] == 0 {
		return 0, false
	}
	for _, d := range list {
		n = n*10 + d
	}
	return n, true
}

// Digits reads one to most digits, each a number of its own.
func Digits(word string, most int) ([]int, bool) {
	if !Within(len(word), 1, most) {
		return nil, false
	}
	list := make([]int, len(word))
	for i := range list {
		if !Within(int(word[i]), '0', '9') {
			return nil, false
		}
		list[i] = int(word[i] - '0')
	}
	return list, true
}

// FromDigits writes digits with nothing between them; Digits is its inverse.
func FromDigits(digits []int) string {
	text := ""
	for _, d := range digits {
		text += strconv.Itoa(d)
	}
	return text
}
