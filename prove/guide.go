package prove

import (
	"slices"

	"padlock/api"
	"padlock/play"
)

// guide finds out where moves of a valid game lead. To count the readings of locks takes long, but which ones are open depends on what has been read alone: this is asked once, and the moves are played in the game without its locks.
type guide struct {
	game, unlocked api.Game
	open           map[string][]bool // the locks, by what has been read
}

// step is a possible move and the position behind it.
type step struct {
	move   api.Move
	behind api.Position
}

func newGuide(g api.Game) guide {
	return guide{game: g, unlocked: unlock(g), open: map[string][]bool{}}
}

// unlock returns a game without its locks. Its moves lead where those of the game lead, and it has the same positions.
func unlock(g api.Game) api.Game {
	u := api.Game{Room: g.Room, Tries: g.Tries}
	u.Room.Acts = slices.Clone(g.Room.Acts)
	for i := range u.Room.Acts {
		u.Room.Acts[i].Lock = -1
	}
	for _, n := range g.Notes {
		u.Notes = append(u.Notes, api.Note{Name: n.Name, Place: n.Place, Lock: -1, When: n.When})
	}
	return u
}

// steps returns the possible moves of any position, in order, or its error.
func (x guide) steps(p api.Position) ([]step, api.Errno) {
	var list []step
	moves, e := play.Can(x.unlocked, p)
	for _, m := range moves {
		if x.allows(p, m) {
			behind, _ := play.Step(x.unlocked, p, m)
			list = append(list, step{m, behind})
		}
	}
	return list, e
}

// allows reports whether no lock is in the way of a move that is possible without locks.
func (x guide) allows(p api.Position, m api.Move) bool {
	if m.Kind != api.Do {
		return true
	}
	lock := x.game.Room.Acts[m.Number].Lock
	return lock == -1 || x.opens(p)[lock]
}

// opens reports for each lock whether it is open in a valid position.
func (x guide) opens(p api.Position) []bool {
	read := readKey(p.Read)
	if _, known := x.open[read]; !known {
		x.open[read], _ = play.Opens(x.game, p)
	}
	return x.open[read]
}
