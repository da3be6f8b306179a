package prove

import (
	"slices"

	"padlock/api"
	"padlock/room"
)

// same reports whether two positions are equal.
func same(a, b api.Position) bool {
	return slices.Equal(a.State.Things, b.State.Things) && slices.Equal(a.State.Props, b.State.Props) &&
		slices.Equal(a.State.Players, b.State.Players) && slices.Equal(a.Read, b.Read)
}

// key returns a text that two positions of one game share only if they are equal: in all of them the lists are equally long.
func key(p api.Position) string {
	var text []byte
	for _, n := range slices.Concat(p.State.Things, p.State.Props, p.State.Players) {
		// All numbers are small, and some of them are below 0.
		text = append(text, byte(n))
	}
	return string(text) + readKey(p.Read)
}

// readKey returns a text for what has been read.
func readKey(read []bool) string {
	text := make([]byte, len(read))
	for i, is := range read {
		if is {
			text[i] = 1
		}
	}
	return string(text)
}

// isFinished reports whether the goal of a game holds in a valid position.
func isFinished(g api.Game, p api.Position) bool {
	is, _ := room.Done(g.Room, p.State)
	return is
}
