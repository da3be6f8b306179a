package prove

import "padlock/api"

// all counts each edge.
func all(api.Edge) bool { return true }

// makes counts the edges whose move has a kind and a number, whoever makes it.
func makes(kind, number int) func(api.Edge) bool {
	return func(e api.Edge) bool { return e.Move.Kind == kind && e.Move.Number == number }
}

// does counts the edges that do an act.
func does(act int) func(api.Edge) bool { return makes(api.Do, act) }

// not counts the edges that do not count otherwise.
func not(counts func(api.Edge) bool) func(api.Edge) bool {
	return func(e api.Edge) bool { return !counts(e) }
}
