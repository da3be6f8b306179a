package puzzles

import (
	"slices"

	"padlock/api"
	"padlock/rules"
)

// maze has walls in a grid.
type maze struct {
	grid
	walls []bool
}

func mazeOf(m api.Maze) maze { return maze{grid{m.Wide, m.High, m.From, m.To}, m.Walls} }

func (m maze) check() api.Errno {
	is := m.isValid(api.MaxCells) && len(m.walls) == m.cells() && !m.walls[m.from] && !m.walls[m.to]
	return rules.Unless(is, api.ErrGrid)
}

// areMoves reports whether a ball can be moved so: a move is the side to which it rolls.
func areMoves(moves []int) bool {
	return len(moves) <= api.MaxLetters && rules.AllWithin(moves, 0, sideCount-1)
}

// roll returns where a ball stops that rolls to a side.
func (m maze) roll(cell, side int) int {
	for {
		next, is := m.next(cell, side)
		if !is || m.walls[next] {
			return cell
		}
		cell = next
	}
}

// routes has the cells in which a ball can come to lie, each with the fewest moves behind which it lies there, and of several such lists with the first one: the cells are looked at in the order in which they are found, which is also that of their moves.
func (m maze) routes(from int) map[int][]int {
	routes := map[int][]int{from: nil}
	for cells := []int{from}; len(cells) > 0; cells = cells[1:] {
		for side := range sideCount {
			next := m.roll(cells[0], side)
			if _, found := routes[next]; !found {
				routes[next] = append(slices.Clone(routes[cells[0]]), side)
				cells = append(cells, next)
			}
		}
	}
	return routes
}

// traps returns the cells in which a ball can come to lie and from which it does not come through.
func (m maze) traps() []int {
	routes := m.routes(m.from)
	return rules.Numbers(m.cells(), func(cell int) bool {
		_, lies := routes[cell]
		return lies && !m.leads(cell)
	})
}

// leads reports whether a ball can come through from a cell.
func (m maze) leads(cell int) bool {
	_, through := m.routes(cell)[m.to]
	return through
}
