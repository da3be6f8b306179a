package language

import (
	"slices"
	"strings"
)

// Line has the words of a line that are still to be read.
type Line []string

// Split returns the words of a line, and whether it ends as a line does.
func Split(text string) (Line, bool) {
	line, ended := strings.CutSuffix(text, "\n")
	return strings.Split(line, " "), ended
}

// Next reads a word, if there is one left.
func (l *Line) Next() (word string, ok bool) {
	if len(*l) == 0 {
		return "", false
	}
	word, *l = (*l)[0], (*l)[1:]
	return word, true
}

// Skip reads a word if it stands there.
func (l *Line) Skip(word string) bool {
	is := len(*l) > 0 && (*l)[0] == word
	if is {
		*l = (*l)[1:]
	}
	return is
}

// GoesOn reports whether a list goes on: another word follows that announces nothing else.
func (l Line) GoesOn() bool { return len(l) > 0 && !isReserved(l[0]) }

// Join returns a line that has all words of its parts.
func Join(parts ...[]string) string {
	return strings.Join(slices.Concat(parts...), " ") + "\n"
}

// Each returns the words of the elements of a list.
func Each[E any](list []E, word func(E) string) []string {
	words := make([]string, len(list))
	for i, x := range list {
		words[i] = word(x)
	}
	return words
}

// Behind returns a word and what it announces, or nothing if there is nothing to be announced.
func Behind(word string, list []string) []string {
	if len(list) == 0 {
		return nil
	}
	return append([]string{word}, list...)
}
