package prove

import (
	"sort"

	"padlock/api"
)

// tries returns the least number of tries with which the game has a solution; ErrMany if it has too many positions with this number or with a smaller one, and ErrStuck if there is none.
func (x *explorer) tries() (int, api.Errno) {
	least, most := 1, x.game.Tries
	if !x.solution(all).exists() {
		least, most = x.game.Tries+1, api.MaxTries+1
	}
	errors := map[int]api.Errno{api.MaxTries + 1: api.ErrStuck}
	// With more tries the same moves are possible, and perhaps others. So there is a solution from some number on, and there are too many positions from some number on.
	n := least + sort.Search(most-least, func(i int) bool {
		solved, e := hasSolution(x.game, least+i)
		errors[least+i] = e
		return solved || e != api.OK
	})
	if e := errors[n]; e != api.OK {
		return 0, e
	}
	return n, api.OK
}

// hasSolution reports whether a game has a solution with so many tries.
func hasSolution(g api.Game, tries int) (bool, api.Errno) {
	g.Tries = tries
	x, e := explore(g)
	return e == api.OK && x.solution(all).exists(), e
}
