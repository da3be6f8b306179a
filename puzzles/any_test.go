package puzzles_test

import (
	"reflect"
	"slices"
	"strings"
	"testing"

	"padlock/api"
	"padlock/puzzles"
)

// inputs are arguments for all functions.
type inputs struct {
	text, key    string
	back         bool
	list, other  []int
	n, m         int
	pipes        api.Pipes
	maze         api.Maze
	said         []api.Portrait
	upper, lower api.Sheet
	spot         api.Spot
}

// calls returns the results of all functions.
func calls(x inputs) (all []any) {
	add := func(results ...any) { all = append(all, results...) }
	text, e := puzzles.Shift(x.text, x.n)
	add(text, e)
	text, e = puzzles.Mix(x.text, x.key, x.back)
	add(text, e)
	list, e := puzzles.Crack(x.text, x.key)
	add(list, e)
	n, m, e := puzzles.Next(x.list)
	add(n, m, e)
	n, e = puzzles.Tips(x.list, x.other, x.n)
	add(n, e)
	list, e = puzzles.Weigh(x.list, x.n)
	add(list, e)
	n, e = puzzles.Weighings(x.list, x.n)
	add(n, e)
	list, n, e = puzzles.Flows(x.pipes, x.other)
	add(list, n, e)
	list, e = puzzles.Plumb(x.pipes)
	add(list, e)
	n, e = puzzles.Plumbings(x.pipes)
	add(n, e)
	n, e = puzzles.Roll(x.maze, x.list)
	add(n, e)
	list, e = puzzles.Escape(x.maze)
	add(list, e)
	list, e = puzzles.Traps(x.maze)
	add(list, e)
	lists, e := puzzles.Hang(x.m, x.said, x.n)
	add(lists, e)
	n, e = puzzles.Hangings(x.m, x.said)
	add(n, e)
	text, e = puzzles.See(x.upper, x.lower, x.spot)
	add(text, e)
	spots, e := puzzles.Find(x.upper, x.lower, x.key)
	add(spots, e)
	n, e = puzzles.Press(x.list, x.m, x.n)
	add(n, e)
	n, e = puzzles.Opens(x.list, x.other)
	add(n, e)
	return all
}

// P0.1: no function panics, whatever the arguments are, and the results depend on them alone; with an error they are zero (R2).
func TestAnyArguments(t *testing.T) {
	numbers := []int{least, least + 1, -1 << 32, -101, -9, -2, -1, 0, 1, 2, 3, 4, 6, 9, 15, 64, 65, 1 << 32, most - 1, most}
	texts := []string{"", "a", "z.", "\x00\xff", "key", "é", strings.Repeat("b", 13), strings.Repeat("c", 201), strings.Repeat(".", 8)}
	trials(20000, func(k maker) {
		number := func() int { return numbers[k.IntN(len(numbers))] }
		list := func() []int {
			l := make([]int, []int{0, 1, 2, 3, 4, 9, 17}[k.IntN(7)])
			for i := range l {
				if l[i] = k.IntN(4); k.IntN(8) == 0 {
					l[i] = number()
				}
			}
			return l
		}
		sheet := func() (s api.Sheet) {
			for range k.IntN(4) {
				s = append(s, texts[k.IntN(len(texts))])
			}
			return s
		}
		x := inputs{text: texts[k.IntN(len(texts))], key: texts[k.IntN(len(texts))], back: k.IntN(2) == 0, list: list(), other: list(), n: number(), m: number(), upper: sheet(), lower: sheet()}
		x.pipes = api.Pipes{Wide: number(), High: number(), Pieces: list(), From: number(), To: number()}
		x.maze = api.Maze{Wide: number(), High: number(), Walls: make([]bool, len(list())), From: number(), To: number()}
		x.spot = api.Spot{Turn: number(), X: number(), Y: number()}
		for range k.IntN(3) {
			x.said = append(x.said, api.Portrait{Kind: k.IntN(7) - 1, A: number(), B: number(), N: number(), Not: k.IntN(2) == 0})
		}
		a := calls(x)
		if b := calls(x); !reflect.DeepEqual(a, b) {
			t.Fatalf("%+v: %v, then %v", x, a, b)
		}
		clean := true
		for i := len(a) - 1; i >= 0; i-- {
			if e, is := a[i].(api.Errno); is {
				clean = e == api.OK
			} else if !clean && !reflect.ValueOf(a[i]).IsZero() {
				t.Fatalf("%+v: the result %d of %v is not zero", x, i, a)
			}
		}
	})
	huge := make([]int, 1<<20)
	calls(inputs{text: strings.Repeat("a", 1<<20), key: strings.Repeat("a", 1<<20), list: huge, other: huge, said: make([]api.Portrait, 1<<20), upper: make(api.Sheet, 1<<20), pipes: api.Pipes{Wide: 1 << 10, High: 1 << 10, Pieces: huge}, maze: api.Maze{Wide: 1 << 10, High: 1 << 10, Walls: make([]bool, 1<<20)}, m: most})
}

// spoil writes over all numbers of a result.
func spoil(x any) {
	switch x := x.(type) {
	case []int:
		for i := range x {
			x[i] = 77
		}
	case [][]int:
		for _, l := range x {
			_ = append(l, 77)
			spoil(l)
		}
	}
}

// solvable are arguments for which most functions have a result.
func solvable() inputs {
	return inputs{
		text: "nhb wr uhg", key: "key", list: []int{1, 2, 1}, other: []int{0, 1, 0}, n: 2, m: 2,
		pipes: api.Pipes{Wide: 3, High: 1, Pieces: []int{2, 5, 8}, To: 2}, maze: mazeOf("a.#", "#.b", "..."),
		said: []api.Portrait{{Kind: api.Left, B: 1, Not: true}}, upper: api.Sheet{"..."}, lower: api.Sheet{"key", "bad"},
	}
}

// R4: results are new memory, and arguments stay as they are.
func TestMemory(t *testing.T) {
	x := solvable()
	before, other := calls(x), calls(x)
	for _, result := range other {
		spoil(result)
	}
	if after := calls(x); !reflect.DeepEqual(before, after) {
		t.Errorf("%v, then %v", before, after)
	}
	if !reflect.DeepEqual(x, solvable()) {
		t.Errorf("the arguments are now %+v", x)
	}
	all := must(puzzles.Hang(3, nil, 6))
	for _, l := range all {
		_ = append(l, 9)
	}
	if !equalLists(all, hung(3, nil)) {
		t.Errorf("the hangings are now %v", all)
	}
}

// R3: a nil list is an empty one.
func TestNil(t *testing.T) {
	x := solvable()
	x.list, x.other, x.said, x.pipes.Pieces = nil, nil, nil, nil
	y := x
	y.list, y.other, y.said, y.pipes.Pieces = []int{}, []int{}, []api.Portrait{}, []int{}
	a, b := calls(x), calls(y)
	for i := range a {
		l, is := a[i].([]int)
		if is && !slices.Equal(l, b[i].([]int)) || !is && !reflect.DeepEqual(a[i], b[i]) {
			t.Errorf("result %d: %v and %v", i, a[i], b[i])
		}
	}
}
