package puzzles

import (
	"padlock/api"
	"padlock/rules"
)

const (
	// letters is how many letters there are.
	letters = 26
	// maxShift is how far Shift goes, in both directions.
	maxShift = 100
)

func checkText(text string) api.Errno {
	return rules.Unless(len(text) <= api.MaxLetters, api.ErrMany)
}

func isKey(key string) bool {
	return rules.Within(len(key), 1, api.MaxKey) && rules.AreLetters(key)
}

func shift(text string, n int) string {
	return replaced(text, func(int) int { return n })
}

func mix(text, key string, back bool) string {
	return replaced(text, func(i int) int {
		n := int(key[i%len(key)] - 'a')
		if back {
			return -n
		}
		return n
	})
}

// replaced returns a text with other letters; a function says how much further on they are, from the number that a letter has among the letters of the text.
func replaced(text string, further func(i int) int) string {
	list := []byte(text)
	i := 0
	for at, b := range list {
		if rules.Within(int(b), 'a', 'z') {
			list[at] = letter(int(b-'a') + further(i))
			i++
		}
	}
	return string(list)
}

// letter returns a letter by its number; the letters begin again behind the last one and before the first one.
func letter(n int) byte {
	return 'a' + byte((n%letters+letters)%letters)
}
