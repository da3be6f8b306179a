package prove

import "slices"

// relay is what a team can reach turn by turn, if the players have turns one after the other, and each makes a move in a turn or none.
type relay struct {
	*explorer
	reached []bool
	ready   [][]int // for each player the positions that have been reached since the last turn of the player
}

// rounds returns the least number of rounds in which a game can be finished, and whether it can.
func (x *explorer) rounds() (n int, can bool) {
	r := relay{explorer: x, reached: make([]bool, len(x.Positions)), ready: make([][]int, x.game.Room.Players)}
	if r.reach(0) {
		return 0, true
	}
	// Positions stay reached, for each player may let a turn pass; so a player goes on just once from each of them.
	for slices.ContainsFunc(r.ready, isSome) {
		n++
		for player := range r.ready {
			if r.turn(player) {
				return n, true
			}
		}
	}
	return 0, false
}

func isSome(positions []int) bool { return len(positions) > 0 }

// reach notes that a position has been reached, and reports whether it is finished.
func (r *relay) reach(position int) bool {
	if !r.reached[position] {
		r.reached[position] = true
		for player := range r.ready {
			r.ready[player] = append(r.ready[player], position)
		}
	}
	return r.finished[position]
}

// turn lets a player make any possible move, and reports whether the game is finished by one of them.
func (r *relay) turn(player int) bool {
	ready := r.ready[player]
	r.ready[player] = nil
	for _, from := range ready {
		for _, e := range r.Edges[from] {
			if e.Move.Player == player && r.reach(e.To) {
				return true
			}
		}
	}
	return false
}
