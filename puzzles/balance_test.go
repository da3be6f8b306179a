package puzzles_test

import (
	"slices"
	"testing"

	"padlock/api"
	"padlock/puzzles"
)

// P3.2: the right side less the left one, on which the load lies.
func TestTips(t *testing.T) {
	ones := slices.Repeat([]int{1}, 10)
	heavy := slices.Repeat([]int{10000}, 10)
	for _, c := range []struct {
		weights, sides []int
		load, want     int
		e              api.Errno
	}{
		{[]int{1, 3, 9}, []int{-1, -1, 1}, 5, 0, api.OK}, {[]int{1, 3, 9}, []int{-1, 0, 1}, 5, 3, api.OK}, {[]int{1, 3, 9}, []int{0, 0, 0}, 5, -5, api.OK}, {nil, nil, 7, -7, api.OK}, {[]int{}, nil, 0, 0, api.OK},
		{heavy, ones, 0, 100000, api.OK}, {heavy, slices.Repeat([]int{-1}, 10), 10000, -110000, api.OK}, {ones, make([]int, 10), 10001, 0, api.ErrArg}, {ones, make([]int, 10), -1, 0, api.ErrArg},
		{append(ones, 1), make([]int, 11), 0, 0, api.ErrArg}, {ones, make([]int, 9), 0, 0, api.ErrArg}, {ones, make([]int, 11), 0, 0, api.ErrArg}, {[]int{1}, nil, 1, 0, api.ErrArg}, {nil, []int{0}, 1, 0, api.ErrArg},
		{[]int{1}, []int{2}, 1, 0, api.ErrArg}, {[]int{1}, []int{-2}, 1, 0, api.ErrArg}, {[]int{0}, []int{0}, 1, 0, api.ErrArg}, {[]int{-1}, []int{0}, 1, 0, api.ErrArg}, {[]int{10001}, []int{0}, 1, 0, api.ErrArg},
	} {
		if n, e := puzzles.Tips(c.weights, c.sides, c.load); n != c.want || e != c.e {
			t.Errorf("Tips(%v, %v, %d) = %d, %d", c.weights, c.sides, c.load, n, e)
		}
	}
}

// P3.2: the fewest weights, then the first of the weighings; and how many there are.
func TestWeigh(t *testing.T) {
	ones := slices.Repeat([]int{1}, 10)
	for _, c := range []struct {
		weights []int
		load    int
		want    []int
		count   int
		e       api.Errno
	}{
		{[]int{1, 3, 9}, 5, []int{-1, -1, 1}, 1, api.OK}, {[]int{2, 2, 4}, 4, []int{0, 0, 1}, 4, api.OK}, {[]int{2, 2}, 2, []int{0, 1}, 2, api.OK}, {[]int{3, 1, 2}, 1, []int{0, 1, 0}, 3, api.OK},
		{[]int{5, 4, 4, 5}, 1, []int{0, -1, 0, 1}, 4, api.OK}, {[]int{2}, 1, nil, 0, api.ErrNone}, {[]int{2}, 2, []int{1}, 1, api.OK}, {nil, 0, nil, 1, api.OK}, {nil, 1, nil, 0, api.ErrNone}, {[]int{4, 4}, 0, []int{0, 0}, 3, api.OK},
		{ones, 10, ones, 1, api.OK}, {ones, 0, make([]int, 10), 8953, api.OK}, {ones, 11, nil, 0, api.ErrNone}, {[]int{10000}, 10000, []int{1}, 1, api.OK},
	} {
		if l, e := puzzles.Weigh(c.weights, c.load); !slices.Equal(l, c.want) || e != c.e {
			t.Errorf("Weigh(%v, %d) = %v, %d", c.weights, c.load, l, e)
		}
		if n, e := puzzles.Weighings(c.weights, c.load); n != c.count || e != api.OK {
			t.Errorf("Weighings(%v, %d) = %d, %d", c.weights, c.load, n, e)
		}
	}
	for _, c := range []struct {
		weights []int
		load    int
	}{{append(ones, 1), 0}, {[]int{0}, 0}, {[]int{1, -1}, 0}, {[]int{10001}, 0}, {[]int{1}, -1}, {[]int{1}, 10001}, {nil, -1}, {nil, most}, {[]int{least}, least}} {
		l, e := puzzles.Weigh(c.weights, c.load)
		fails(t, "Weigh", l == nil, e, api.ErrArg)
		n, e := puzzles.Weighings(c.weights, c.load)
		fails(t, "Weighings", n == 0, e, api.ErrArg)
	}
}
