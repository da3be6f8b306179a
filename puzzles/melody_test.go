package puzzles_test

import (
	"slices"
	"testing"

	"padlock/api"
	"padlock/puzzles"
)

// P3.7: how many notes have been heard.
func TestPress(t *testing.T) {
	long := []int{0, 1, 2, 3, 4, 5, 6, 7, 8, 9, 0, 1, 2, 3, 4, 5}
	same := slices.Repeat([]int{7}, 16)
	for i, c := range []struct {
		melody           []int
		heard, key, want int
		e                api.Errno
	}{
		{[]int{1, 2, 1, 3}, 3, 2, 2, api.OK}, {[]int{1, 2, 1, 3}, 3, 3, 4, api.OK}, {[]int{1, 2, 1, 3}, 3, 1, 1, api.OK}, {[]int{1, 2, 1, 3}, 3, 0, 0, api.OK}, {[]int{1, 2, 1, 3}, 0, 1, 1, api.OK}, {[]int{1, 2, 1, 3}, 0, 2, 0, api.OK}, {[]int{1, 2, 1, 3}, 1, 1, 1, api.OK}, {[]int{1, 1, 1, 2}, 3, 1, 3, api.OK}, {[]int{1, 1, 2, 1, 1, 1}, 5, 2, 3, api.OK},
		{[]int{5}, 0, 5, 1, api.OK}, {[]int{5}, 0, 4, 0, api.OK}, {long, 15, 5, 16, api.OK}, {long, 15, 0, 1, api.OK}, {same, 15, 7, 16, api.OK}, {same, 14, 7, 15, api.OK}, {same, 15, 8, 0, api.OK}, {[]int{0, 9}, 1, 9, 2, api.OK},
		{nil, 0, 0, 0, api.ErrArg}, {append(slices.Clone(same), 7), 0, 7, 0, api.ErrArg}, {[]int{10}, 0, 1, 0, api.ErrArg}, {[]int{1, -1}, 0, 1, 0, api.ErrArg}, {[]int{1, 2}, 2, 1, 0, api.ErrArg}, {[]int{1, 2}, -1, 1, 0, api.ErrArg}, {[]int{1, 2}, 0, 10, 0, api.ErrArg}, {[]int{1, 2}, 0, -1, 0, api.ErrArg}, {[]int{1, 2}, most, 1, 0, api.ErrArg}, {[]int{1, 2}, least, 1, 0, api.ErrArg},
	} {
		if n, e := puzzles.Press(c.melody, c.heard, c.key); n != c.want || e != c.e {
			t.Errorf("%d: Press = %d, %d, want %d, %d", i, n, e, c.want, c.e)
		}
	}
}

// P3.7: behind how many keys a lock opens.
func TestOpens(t *testing.T) {
	melody := []int{1, 2, 1, 3}
	last := append(make([]int, 196), melody...)
	for i, c := range []struct {
		melody, keys []int
		want         int
		e            api.Errno
	}{
		{melody, []int{1, 2, 1, 2, 1, 3}, 6, api.OK}, {melody, melody, 4, api.OK}, {melody, append(melody, melody...), 4, api.OK}, {melody, nil, -1, api.OK}, {melody, []int{1, 2, 1}, -1, api.OK}, {melody, []int{1, 2, 3, 1}, -1, api.OK}, {[]int{0}, []int{9, 8, 0}, 3, api.OK}, {[]int{9}, []int{9}, 1, api.OK}, {melody, last, 200, api.OK}, {melody, last[:199], -1, api.OK},
		{melody, append(last, 1), 0, api.ErrMany}, {melody, append(last, -1), 0, api.ErrMany}, {nil, append(last, 1), 0, api.ErrArg}, {nil, nil, 0, api.ErrArg}, {make([]int, 16), make([]int, 16), 16, api.OK}, {make([]int, 17), make([]int, 17), 0, api.ErrArg}, {[]int{10}, nil, 0, api.ErrArg}, {[]int{-1}, nil, 0, api.ErrArg},
		{melody, []int{10}, 0, api.ErrArg}, {melody, []int{1, 2, 1, 3, -1}, 0, api.ErrArg}, {melody, []int{1, 2, 1, 3, 9}, 4, api.OK},
	} {
		if n, e := puzzles.Opens(c.melody, c.keys); n != c.want || e != c.e {
			t.Errorf("%d: Opens = %d, %d, want %d, %d", i, n, e, c.want, c.e)
		}
	}
}
