package room

import (
	"slices"

	"padlock/api"
	"padlock/rules"
)

// isName reports whether a text is a name.
func isName(s string) bool { return len(s) <= api.MaxName && isWord(s) }

// isWord reports whether a text has the form of a name, but for its length.
func isWord(s string) bool { return s != "" && rules.AreLetters(s) && !isReserved(s) }

// isReserved reports whether a word has a meaning behind names, so that it can be none.
func isReserved(s string) bool {
	switch s {
	case "at", "states", "start", "gone", "if", "lock", "with", "sets", "spends", "brings":
		return true
	}
	return false
}

func nameOfPlace(name string) string { return name }

func nameOfThing(t api.Thing) string { return t.Name }

func nameOfProp(p api.Prop) string { return p.Name }

func nameOfAct(a api.Act) string { return a.Name }

// find returns the number of the first element that has a name, or -1.
func find[E any](list []E, name string, nameOf func(E) string) int {
	return slices.IndexFunc(list, func(x E) bool { return nameOf(x) == name })
}

// isNew reports whether an element has a name that no element before it has.
func isNew[E any](list []E, i int, nameOf func(E) string) bool {
	name := nameOf(list[i])
	return isName(name) && find(list, name, nameOf) == i
}
