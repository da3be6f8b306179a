package puzzles_test

import (
	"slices"
	"testing"

	"padlock/api"
	"padlock/puzzles"
)

// P3.3: where water comes, and how often it leaks.
func TestFlows(t *testing.T) {
	row := func(pieces ...int) api.Pipes {
		return api.Pipes{Wide: len(pieces), High: 1, Pieces: pieces, To: len(pieces) - 1}
	}
	cross := api.Pipes{Wide: 3, High: 3, Pieces: slices.Repeat([]int{15}, 9), From: 4}
	for i, c := range []struct {
		p     api.Pipes
		turns []int
		wet   []int
		leaks int
	}{
		{row(2, 8), []int{0, 0}, []int{0, 1}, 0}, {row(1, 8), []int{0, 0}, []int{0}, 1}, {row(1, 8), []int{1, 0}, []int{0, 1}, 0}, {row(4, 1), []int{3, 3}, []int{0, 1}, 0}, {row(8, 1), []int{2, 3}, []int{0, 1}, 0},
		{row(2, 1), []int{0, 0}, []int{0}, 1}, {row(2, 10, 2), []int{0, 0, 2}, []int{0, 1, 2}, 0}, {row(2, 10, 2), []int{0, 0, 0}, []int{0, 1}, 1}, {row(0, 15), []int{0, 0}, []int{0}, 0}, {row(15, 15), []int{0, 0}, []int{0, 1}, 6},
		{row(8, 15), []int{0, 0}, []int{0}, 1}, {cross, make([]int, 9), []int{0, 1, 2, 3, 4, 5, 6, 7, 8}, 12},
		{api.Pipes{Wide: 1, High: 3, Pieces: []int{4, 5, 1}, From: 2}, []int{0, 0, 0}, []int{0, 1, 2}, 0}, {api.Pipes{Wide: 1, High: 3, Pieces: []int{4, 5, 1}, From: 1}, []int{0, 1, 0}, []int{1}, 2},
		{api.Pipes{Wide: 2, High: 2, Pieces: []int{6, 12, 3, 9}, From: 3}, []int{0, 0, 0, 0}, []int{0, 1, 2, 3}, 0}, {api.Pipes{Wide: 2, High: 2, Pieces: []int{6, 12, 3, 9}, From: 3}, []int{1, 0, 0, 0}, []int{0, 1, 2, 3}, 2},
		{api.Pipes{Wide: 2, High: 2, Pieces: []int{2, 12, 8, 2}, From: 1}, []int{0, 0, 0, 0}, []int{0, 1}, 1},
	} {
		if wet, leaks, e := puzzles.Flows(c.p, c.turns); !slices.Equal(wet, c.wet) || leaks != c.leaks || e != api.OK {
			t.Errorf("%d: Flows = %v, %d, %d", i, wet, leaks, e)
		}
	}
	for _, turns := range [][]int{nil, {0}, {0, 0, 0}, {0, 4}, {-1, 0}, {0, most}, {least, 0}} {
		wet, leaks, e := puzzles.Flows(row(2, 8), turns)
		fails(t, "Flows", wet == nil && leaks == 0, e, api.ErrArg)
	}
}

// P3.3: the least sum, then the lower numbers; and how many there are.
func TestPlumb(t *testing.T) {
	for i, c := range []struct {
		p     api.Pipes
		want  []int
		count int
		e     api.Errno
	}{
		{api.Pipes{Wide: 2, High: 1, Pieces: []int{1, 8}, To: 1}, []int{1, 0}, 1, api.OK}, {api.Pipes{Wide: 2, High: 1, Pieces: []int{1, 10}, To: 1}, nil, 0, api.ErrNone}, {api.Pipes{Wide: 1, High: 1, Pieces: []int{0}}, []int{0}, 4, api.OK},
		{api.Pipes{Wide: 1, High: 1, Pieces: []int{1}}, nil, 0, api.ErrNone}, {api.Pipes{Wide: 2, High: 1, Pieces: []int{0, 0}, To: 1}, nil, 0, api.ErrNone}, {api.Pipes{Wide: 2, High: 1, Pieces: []int{0, 15}}, []int{0, 0}, 16, api.OK},
		{api.Pipes{Wide: 2, High: 2, Pieces: []int{6, 12, 3, 9}, To: 3}, []int{0, 0, 0, 0}, 1, api.OK}, {api.Pipes{Wide: 3, High: 1, Pieces: []int{2, 5, 4}, To: 2}, []int{0, 1, 1}, 2, api.OK},
		// The turns 2 0 1 0 have the same sum.
		{api.Pipes{Wide: 2, High: 2, Pieces: []int{1, 6, 9, 8}, To: 3}, []int{1, 1, 0, 1}, 8, api.OK},
		{api.Pipes{Wide: 3, High: 3, Pieces: []int{2, 10, 12, 6, 10, 9, 3, 10, 8}, To: 8}, make([]int, 9), 520, api.OK},
	} {
		if turns, e := puzzles.Plumb(c.p); !slices.Equal(turns, c.want) || e != c.e {
			t.Errorf("%d: Plumb = %v, %d", i, turns, e)
		}
		if n, e := puzzles.Plumbings(c.p); n != c.count || e != api.OK {
			t.Errorf("%d: Plumbings = %d, %d", i, n, e)
		}
	}
}

// P3.3: which pipes are valid; their error comes before that of the turns.
func TestPipesAreValid(t *testing.T) {
	pipes := func(wide, high, pieces int) api.Pipes {
		return api.Pipes{Wide: wide, High: high, Pieces: make([]int, max(pieces, 0))}
	}
	square := func(change func(p *api.Pipes)) api.Pipes {
		p := pipes(2, 2, 4)
		change(&p)
		return p
	}
	for i, c := range []struct {
		p api.Pipes
		e api.Errno
	}{
		{pipes(1, 1, 1), api.OK}, {pipes(9, 1, 9), api.OK}, {pipes(1, 9, 9), api.OK}, {pipes(3, 3, 9), api.OK}, {pipes(4, 2, 8), api.OK}, {pipes(10, 1, 10), api.ErrGrid}, {pipes(1, 10, 10), api.ErrGrid}, {pipes(5, 2, 10), api.ErrGrid}, {pipes(2, 5, 10), api.ErrGrid},
		{pipes(0, 1, 0), api.ErrGrid}, {pipes(1, 0, 0), api.ErrGrid}, {pipes(-1, -1, 1), api.ErrGrid}, {pipes(-2, -2, 4), api.ErrGrid}, {pipes(1<<32, 1<<32, 0), api.ErrGrid}, {pipes(3, 6148914691236517206, 2), api.ErrGrid}, {api.Pipes{}, api.ErrGrid},
		{pipes(2, 2, 3), api.ErrGrid}, {pipes(2, 2, 5), api.ErrGrid}, {pipes(2, 2, 0), api.ErrGrid}, {pipes(least, least, 0), api.ErrGrid}, {pipes(most, most, 1), api.ErrGrid},
		{square(func(p *api.Pipes) { p.Pieces[3] = 15 }), api.OK}, {square(func(p *api.Pipes) { p.Pieces[3] = 16 }), api.ErrGrid}, {square(func(p *api.Pipes) { p.Pieces[0] = -1 }), api.ErrGrid},
		{square(func(p *api.Pipes) { p.From, p.To = 3, 3 }), api.OK}, {square(func(p *api.Pipes) { p.From = 4 }), api.ErrGrid}, {square(func(p *api.Pipes) { p.To = 4 }), api.ErrGrid}, {square(func(p *api.Pipes) { p.From = -1 }), api.ErrGrid}, {square(func(p *api.Pipes) { p.To = -1 }), api.ErrGrid},
	} {
		turns := make([]int, len(c.p.Pieces))
		wet, leaks, e := puzzles.Flows(c.p, turns)
		if e != c.e || e != api.OK && (wet != nil || leaks != 0) {
			t.Errorf("%d: Flows: %d, want %d", i, e, c.e)
		}
		if c.e == api.OK {
			continue
		}
		if _, _, e := puzzles.Flows(c.p, []int{9}); e != c.e {
			t.Errorf("%d: Flows with wrong turns: %d", i, e)
		}
		plan, e := puzzles.Plumb(c.p)
		fails(t, "Plumb", plan == nil, e, c.e)
		n, e := puzzles.Plumbings(c.p)
		fails(t, "Plumbings", n == 0, e, c.e)
	}
}
