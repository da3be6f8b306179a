package play

import (
	"padlock/api"
	"padlock/codes"
	"padlock/rules"
)

// about returns the notes about a lock that count.
func about(g api.Game, lock int, counts func(note int) bool) []int {
	return rules.Numbers(len(g.Notes), func(note int) bool { return g.Notes[note].Lock == lock && counts(note) })
}

// allAbout returns all notes about a lock.
func allAbout(g api.Game, lock int) []int {
	return about(g, lock, func(int) bool { return true })
}

// cluesOf returns what notes say.
func cluesOf(g api.Game, notes []int) []api.Clue {
	var clues []api.Clue
	for _, note := range notes {
		clues = append(clues, g.Notes[note].Clue)
	}
	return clues
}

// count returns how many readings the clues of notes about a lock have. There is no error to expect: the game is valid.
func count(g api.Game, lock int, notes []int) int {
	n, _ := codes.Count(g.Locks[lock], cluesOf(g, notes))
	return n
}

// core returns those of some notes about a lock that are enough.
func core(g api.Game, lock int, notes []int) []int {
	var list []int
	left, _ := codes.Core(g.Locks[lock], cluesOf(g, notes))
	for _, i := range left {
		list = append(list, notes[i])
	}
	return list
}
