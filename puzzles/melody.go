package puzzles

import (
	"slices"

	"padlock/api"
	"padlock/rules"
)

// maxNote is the highest note.
const maxNote = 9

func isNote(n int) bool { return rules.Within(n, 0, maxNote) }

func areNotes(list []int) bool { return rules.AllWithin(list, 0, maxNote) }

func isMelody(melody []int) bool {
	return rules.Within(len(melody), 1, api.MaxMelody) && areNotes(melody)
}

// press returns how many notes have been heard behind one more key. What was pressed before those that had been heard does not matter: it was no beginning of the melody then, so none begins with it now.
func press(melody []int, heard, key int) int {
	keys := append(slices.Clone(melody[:heard]), key)
	for !slices.Equal(keys, melody[:len(keys)]) {
		keys = keys[1:]
	}
	return len(keys)
}

// opens returns behind how many keys all notes have been heard, or -1.
func opens(melody, keys []int) int {
	heard := 0
	for i, key := range keys {
		heard = press(melody, heard, key)
		if heard == len(melody) {
			return i + 1
		}
	}
	return -1
}
