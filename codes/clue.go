package codes

import (
	"padlock/api"
	"padlock/rules"
)

// shape says how a kind of clue is written, and so which fields it uses: the letters of its numbers in the order of the text, and whether a guess stands behind them.
type shape struct {
	word    string
	numbers string
	guess   bool
}

// shapes has the kinds from 1 on.
var shapes = [...]shape{
	api.At - 1:     {word: "at", numbers: "AN"},
	api.Sum - 1:    {word: "sum", numbers: "ABN"},
	api.Less - 1:   {word: "less", numbers: "AB"},
	api.Same - 1:   {word: "same", numbers: "AB"},
	api.Has - 1:    {word: "has", numbers: "NM"},
	api.Right - 1:  {word: "right", numbers: "NM", guess: true},
	api.Remain - 1: {word: "remain", numbers: "ANM"},
}

// field returns the field of a clue that a letter of a shape names.
func field(c *api.Clue, letter rune) *int {
	switch letter {
	case 'A':
		return &c.A
	case 'B':
		return &c.B
	case 'N':
		return &c.N
	}
	return &c.M
}

// spares reports whether all fields that the shape does not use are zero.
func (s shape) spares(c api.Clue) bool {
	for _, letter := range s.numbers {
		*field(&c, letter) = 0
	}
	return c.A == 0 && c.B == 0 && c.N == 0 && c.M == 0 && (s.guess || len(c.Guess) == 0)
}

func (l lock) checkClue(c api.Clue) api.Errno {
	if rules.Within(c.Kind, 1, len(shapes)) && shapes[c.Kind-1].spares(c) && l.inRange(c) {
		return api.OK
	}
	return api.ErrClue
}

func (l lock) checkClues(clues []api.Clue, most int) api.Errno {
	if len(clues) > most {
		return api.ErrMany
	}
	for _, c := range clues {
		if e := l.checkClue(c); e != api.OK {
			return e
		}
	}
	return api.OK
}

// inRange reports whether the fields that a clue uses have values that its kind allows.
func (l lock) inRange(c api.Clue) bool {
	switch c.Kind {
	case api.At:
		return l.hasWheel(c.A) && l.hasSymbol(c.N)
	case api.Sum:
		return l.hasWheel(c.A) && l.hasWheel(c.B) && c.A <= c.B && rules.Within(c.N, 0, 100)
	case api.Less, api.Same:
		return l.hasWheel(c.A) && l.hasWheel(c.B) && c.A != c.B
	case api.Has:
		return l.hasSymbol(c.N) && rules.Within(c.M, 0, l.Wheels)
	case api.Right:
		return l.hasCode(c.Guess) && rules.Within(c.N, 0, l.Wheels) && rules.Within(c.M, 0, l.Wheels)
	case api.Remain:
		return l.hasWheel(c.A) && rules.Within(c.N, 2, 10) && rules.Within(c.M, 0, c.N-1)
	}
	return false
}

// holds expects a valid clue.
func (l lock) holds(c api.Clue, r row) bool { return l.says(c, r) != c.Not }

// says is holds without regard to Not.
func (l lock) says(c api.Clue, r row) bool {
	switch c.Kind {
	case api.At:
		return r[c.A] == c.N
	case api.Sum:
		return r.sum(c.A, c.B) == c.N
	case api.Less:
		return r[c.A] < r[c.B]
	case api.Same:
		return r[c.A] == r[c.B]
	case api.Has:
		return l.counts(r)[c.N] == c.M
	case api.Right:
		right, common := l.answer(r, rowOf(c.Guess))
		return right == c.N && common == c.M
	case api.Remain:
		return r[c.A]%c.N == c.M
	}
	return false
}

// sum adds what the wheels from a to b show.
func (r row) sum(a, b int) int {
	n := 0
	for w := a; w <= b; w++ {
		n += r[w]
	}
	return n
}

// broken returns the first clue that does not hold, or -1.
func (l lock) broken(clues []api.Clue, r row) int {
	for i, c := range clues {
		if !l.holds(c, r) {
			return i
		}
	}
	return -1
}
