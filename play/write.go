package play

import (
	"strconv"

	"padlock/api"
	"padlock/codes"
	"padlock/language"
	"padlock/room"
	"padlock/rules"
)

// write expects a valid game, so that there are no errors in it.
func write(g api.Game) string {
	text, _ := room.Format(g.Room)
	for i, l := range g.Locks {
		text += language.Join([]string{"codelock", strconv.Itoa(l.Wheels), strconv.Itoa(l.Symbols), rules.FromDigits(g.Codes[i])})
	}
	for _, n := range g.Notes {
		text += language.Join([]string{"note", n.Name, "at", g.Room.Places[n.Place]}, language.If(g.Room.Things, n.When), says(g, n))
	}
	return text + language.Join([]string{"tries", strconv.Itoa(g.Tries)})
}

// says returns the words with which a note speaks of a lock, or nothing if it speaks of none.
func says(g api.Game, n api.Note) []string {
	if n.Lock == -1 {
		return nil
	}
	clue, _ := codes.Format(g.Locks[n.Lock], n.Clue)
	return []string{"lock", strconv.Itoa(n.Lock), clue}
}
