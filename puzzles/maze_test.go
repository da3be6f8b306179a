package puzzles_test

import (
	"slices"
	"strings"
	"testing"

	"padlock/api"
	"padlock/puzzles"
)

// mazeOf reads a maze: a # is a wall, the ball begins at a, and should come to b; x is both.
func mazeOf(rows ...string) api.Maze {
	m := api.Maze{Wide: len(rows[0]), High: len(rows)}
	for i, b := range []byte(strings.Join(rows, "")) {
		m.Walls = append(m.Walls, b == '#')
		if b == 'a' || b == 'x' {
			m.From = i
		}
		if b == 'b' || b == 'x' {
			m.To = i
		}
	}
	return m
}

// P3.4: a ball rolls until something stops it.
func TestRoll(t *testing.T) {
	open, walled := mazeOf("a..", "..b"), mazeOf("a..#.", ".#...", "..#.b")
	for _, c := range []struct {
		m     api.Maze
		moves []int
		want  int
	}{
		{open, []int{1, 2}, 5}, {open, nil, 0}, {open, []int{1}, 2}, {open, []int{2}, 3}, {open, []int{0}, 0}, {open, []int{3}, 0}, {open, []int{1, 2, 3}, 3}, {open, []int{1, 2, 3, 0}, 0}, {open, []int{1, 2, 1, 2}, 5},
		{walled, []int{1}, 2}, {walled, []int{1, 2}, 7}, {walled, []int{1, 2, 1}, 9}, {walled, []int{1, 2, 1, 0}, 4}, {walled, []int{1, 2, 1, 0, 3}, 4}, {walled, []int{1, 2, 1, 2, 3}, 13}, {walled, []int{2, 1}, 11}, {walled, []int{2, 1, 0}, 11},
	} {
		if cell, e := puzzles.Roll(c.m, c.moves); cell != c.want || e != api.OK {
			t.Errorf("Roll(%v, %v) = %d, %d", c.m, c.moves, cell, e)
		}
	}
	start := mazeOf("ba")
	for i, c := range []struct {
		moves []int
		e     api.Errno
	}{{make([]int, 200), api.OK}, {make([]int, 201), api.ErrArg}, {[]int{4}, api.ErrArg}, {[]int{0, 1, -1}, api.ErrArg}, {[]int{3, 2, 1, 0, 1}, api.OK}, {[]int{most}, api.ErrArg}} {
		cell, e := puzzles.Roll(start, c.moves)
		if e != c.e || cell != map[bool]int{true: 1, false: 0}[e == api.OK] {
			t.Errorf("%d: Roll = %d, %d", i, cell, e)
		}
	}
}

// P3.4: the fewest moves, then the lower ones; and the cells from which there are none.
func TestEscape(t *testing.T) {
	for i, c := range []struct {
		m     api.Maze
		moves []int
		traps []int
		e     api.Errno
	}{
		{mazeOf("a..", "..b"), []int{1, 2}, nil, api.OK}, {mazeOf("ab.", "..."), nil, []int{0, 2, 3, 5}, api.ErrNone}, {mazeOf("x"), nil, nil, api.OK}, {mazeOf("x..", "..."), nil, nil, api.OK},
		{mazeOf("ab"), []int{1}, nil, api.OK}, {mazeOf("ba"), []int{3}, nil, api.OK}, {mazeOf("a", "b"), []int{2}, nil, api.OK}, {mazeOf("b", "a"), []int{0}, nil, api.OK}, {mazeOf("a#b"), nil, []int{0}, api.ErrNone},
		// The ball begins where it should come to, and does not come there again.
		{mazeOf(".x.", "###"), nil, []int{0, 2}, api.OK},
		// It comes through, and may roll on to where it does not come through again.
		{mazeOf("##.", "a.b", "##."), []int{1}, []int{2, 8}, api.OK}, {mazeOf("a.b", ".#.", ".#."), []int{1}, nil, api.OK}, {mazeOf("a.b#", "##..", "##.#", "##.#"), []int{1}, nil, api.OK}, {mazeOf("ab#", "#.#", "#..", "###"), []int{1}, nil, api.OK},
		{mazeOf("a.b", "##.", "...", ".##"), []int{1}, nil, api.OK}, {mazeOf("#.#", "a.b"), []int{1}, nil, api.OK}, {mazeOf("a..", ".#b", "..."), nil, []int{0, 2, 6, 8}, api.ErrNone},
		// Two ways are equally long.
		{mazeOf("a.", ".b"), []int{1, 2}, nil, api.OK}, {mazeOf(".b", "a."), []int{0, 1}, nil, api.OK}, {mazeOf("b.", ".a"), []int{0, 3}, nil, api.OK}, {mazeOf(".a", "b."), []int{2, 3}, nil, api.OK},
		{mazeOf("a.#", "#b.", "#.#"), nil, []int{0, 1, 7}, api.ErrNone},
		{mazeOf("a....", "####.", "b....", "#####"), []int{1, 2, 3}, nil, api.OK}, {mazeOf("..a..", "#.#.#", "b#.##"), nil, []int{0, 2, 4}, api.ErrNone},
	} {
		if moves, e := puzzles.Escape(c.m); !slices.Equal(moves, c.moves) || e != c.e {
			t.Errorf("%d: Escape = %v, %d", i, moves, e)
		}
		if traps, e := puzzles.Traps(c.m); !slices.Equal(traps, c.traps) || e != api.OK {
			t.Errorf("%d: Traps = %v, %d", i, traps, e)
		}
	}
}

// P3.4: which mazes are valid; their error comes before that of the moves.
func TestMazesAreValid(t *testing.T) {
	maze := func(wide, high, walls, from, to int) api.Maze {
		return api.Maze{Wide: wide, High: high, Walls: make([]bool, walls), From: from, To: to}
	}
	wall := func(cell int) api.Maze {
		m := maze(3, 1, 3, 0, 2)
		m.Walls[cell] = true
		return m
	}
	for i, c := range []struct {
		m api.Maze
		e api.Errno
	}{
		{maze(1, 1, 1, 0, 0), api.OK}, {maze(64, 1, 64, 63, 0), api.OK}, {maze(1, 64, 64, 0, 63), api.OK}, {maze(8, 8, 64, 63, 63), api.OK}, {maze(65, 1, 65, 0, 0), api.ErrGrid}, {maze(1, 65, 65, 0, 0), api.ErrGrid}, {maze(13, 5, 65, 0, 0), api.ErrGrid}, {maze(5, 13, 65, 0, 0), api.ErrGrid},
		{maze(0, 1, 0, 0, 0), api.ErrGrid}, {maze(1, 0, 0, 0, 0), api.ErrGrid}, {maze(-1, -1, 1, 0, 0), api.ErrGrid}, {maze(1<<32, 1<<32, 0, 0, 0), api.ErrGrid}, {maze(most, least, 1, 0, 0), api.ErrGrid}, {api.Maze{}, api.ErrGrid},
		{maze(2, 2, 3, 0, 0), api.ErrGrid}, {maze(2, 2, 5, 0, 0), api.ErrGrid}, {maze(2, 2, 4, 4, 0), api.ErrGrid}, {maze(2, 2, 4, -1, 0), api.ErrGrid}, {maze(2, 2, 4, 0, 4), api.ErrGrid}, {maze(2, 2, 4, 0, -1), api.ErrGrid}, {maze(2, 2, 4, 3, 3), api.OK}, {maze(2, 2, 5, 4, 4), api.ErrGrid},
		{wall(0), api.ErrGrid}, {wall(1), api.OK}, {wall(2), api.ErrGrid},
	} {
		cell, e := puzzles.Roll(c.m, nil)
		if e != c.e || e == api.OK && cell != c.m.From || e != api.OK && cell != 0 {
			t.Errorf("%d: Roll = %d, %d, want %d", i, cell, e, c.e)
		}
		if c.e == api.OK {
			continue
		}
		if _, e := puzzles.Roll(c.m, []int{9}); e != c.e {
			t.Errorf("%d: Roll with a wrong move: %d", i, e)
		}
		moves, e := puzzles.Escape(c.m)
		fails(t, "Escape", moves == nil, e, c.e)
		traps, e := puzzles.Traps(c.m)
		fails(t, "Traps", traps == nil, e, c.e)
	}
}
