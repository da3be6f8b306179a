package puzzles

import (
	"padlock/api"
	"padlock/rules"
)

// allOpen is a piece that is open to each side: the bit of a side is the number of the side.
const allOpen = 1<<sideCount - 1

// pipes are pieces in a grid.
type pipes struct {
	grid
	pieces []int
}

func pipesOf(p api.Pipes) pipes { return pipes{grid{p.Wide, p.High, p.From, p.To}, p.Pieces} }

func (p pipes) check() api.Errno {
	is := p.isValid(api.MaxPieces) && len(p.pieces) == p.cells() && rules.AllWithin(p.pieces, 0, allOpen)
	return rules.Unless(is, api.ErrGrid)
}

func (p pipes) canTurn(turns []int) bool {
	return len(turns) == p.cells() && rules.AllWithin(turns, 0, sideCount-1)
}

// flow is where water comes, and how often it leaks.
type flow struct {
	wet   [api.MaxPieces]bool
	leaks int
}

func (p pipes) water(turns []int) flow {
	var open [api.MaxPieces]int
	for cell, piece := range p.pieces {
		open[cell] = turned(piece, turns[cell])
	}
	var w flow
	p.spread(&w, &open, p.from)
	return w
}

// turned returns to which sides a piece is open behind some quarters: each takes a side to the next one, and the last to the first.
func turned(piece, quarters int) int {
	return (piece<<quarters | piece>>(sideCount-quarters)) & allOpen
}

// spread lets water into a cell, and from there into all others to which it comes.
func (p pipes) spread(w *flow, open *[api.MaxPieces]int, cell int) {
	if w.wet[cell] {
		return
	}
	w.wet[cell] = true
	for side := range sideCount {
		if !isOpen(open[cell], side) {
			continue
		}
		next, is := p.next(cell, side)
		if is && isOpen(open[next], opposite(side)) {
			p.spread(w, open, next)
		} else {
			w.leaks++
		}
	}
}

func isOpen(piece, side int) bool { return piece>>side&1 == 1 }

// plumbings yields the turns that solve the pipes, in order.
func (p pipes) plumbings(yield func([]int) bool) {
	for turns := range rules.Lists(p.cells(), 0, sideCount-1) {
		if w := p.water(turns); w.wet[p.to] && w.leaks == 0 && !yield(turns) {
			return
		}
	}
}
