package play

import (
	"slices"

	"padlock/api"
)

func sameNote(a, b api.Note) bool {
	return a.Name == b.Name && a.Place == b.Place && a.Lock == b.Lock && slices.Equal(a.When, b.When) && sameClue(a.Clue, b.Clue)
}

func sameClue(a, b api.Clue) bool {
	return a.Kind == b.Kind && a.A == b.A && a.B == b.B && a.N == b.N && a.M == b.M && slices.Equal(a.Guess, b.Guess) && a.Not == b.Not
}
