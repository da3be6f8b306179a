package puzzles

import "padlock/rules"

// The sides of a cell, clockwise, so that a quarter leads from each to the next one.
const (
	up = iota
	right
	down
	left
	sideCount
)

// opposite returns the side of the next cell that it shares with this one's.
func opposite(side int) int { return (side + sideCount/2) % sideCount }

// grid has cells, which are numbered row by row; something should come from one of them to another one.
type grid struct {
	wide, high, from, to int
}

// isValid reports whether a grid has at most so many cells, and both ends are among them. The length of a side is looked at first, so that the product cannot overflow.
func (g grid) isValid(most int) bool {
	return rules.Within(g.wide, 1, most) && rules.Within(g.high, 1, most) && g.cells() <= most && g.has(g.from) && g.has(g.to)
}

func (g grid) cells() int { return g.wide * g.high }

func (g grid) has(cell int) bool { return rules.Within(cell, 0, g.cells()-1) }

// next returns the cell at a side of a cell; it reports whether there is one.
func (g grid) next(cell, side int) (int, bool) {
	row, column := cell/g.wide, cell%g.wide
	switch side {
	case up:
		return cell - g.wide, row > 0
	case right:
		return cell + 1, column < g.wide-1
	case down:
		return cell + g.wide, row < g.high-1
	}
	return cell - 1, column > 0
}
