// Package language contains what other texts have in common with the language of rooms (shared/doc/02-room.md): names, the words of lines, literals.
package language

import (
	"slices"

	"padlock/api"
	"padlock/rules"
)

// IsName reports whether a text is a name.
func IsName(s string) bool { return len(s) <= api.MaxName && IsWord(s) }

// IsWord reports whether a text has the form of a name, but for its length.
func IsWord(s string) bool { return s != "" && rules.AreLetters(s) && !isReserved(s) }

// isReserved reports whether a word has a meaning behind names, so that it can be none.
func isReserved(s string) bool {
	switch s {
	case "at", "states", "start", "gone", "if", "lock", "with", "sets", "spends", "brings":
		return true
	}
	return false
}

// Find returns the number of the first element that has a name, or -1.
func Find[E any](list []E, name string, nameOf func(E) string) int {
	return slices.IndexFunc(list, func(x E) bool { return nameOf(x) == name })
}

// IsNew reports whether a text of a list is a name, and no text before it is the same.
func IsNew(list []string, i int) bool {
	return IsName(list[i]) && !slices.Contains(list[:i], list[i])
}

// NameOfPlace returns the name of a place, which is the place itself, for Find.
func NameOfPlace(name string) string { return name }

// NameOfThing returns the name of a thing.
func NameOfThing(t api.Thing) string { return t.Name }
