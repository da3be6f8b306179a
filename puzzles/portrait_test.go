package puzzles_test

import (
	"slices"
	"testing"

	"padlock/api"
	"padlock/puzzles"
)

func equalLists(a, b [][]int) bool {
	return slices.EqualFunc(a, b, func(x, y []int) bool { return slices.Equal(x, y) })
}

// P3.5: what each kind of sentence says, and the order of the hangings.
func TestHang(t *testing.T) {
	not := func(s api.Portrait) api.Portrait { s.Not = true; return s }
	hangs := func(a, n int) api.Portrait { return api.Portrait{Kind: api.Hangs, A: a, N: n} }
	left := func(a, b int) api.Portrait { return api.Portrait{Kind: api.Left, A: a, B: b} }
	beside := func(a, b int) api.Portrait { return api.Portrait{Kind: api.Beside, A: a, B: b} }
	farther := func(a, b, n int) api.Portrait { return api.Portrait{Kind: api.Farther, A: a, B: b, N: n} }
	all := [][]int{{0, 1, 2}, {0, 2, 1}, {1, 0, 2}, {1, 2, 0}, {2, 0, 1}, {2, 1, 0}}
	pick := func(numbers ...int) (list [][]int) {
		for _, i := range numbers {
			list = append(list, all[i])
		}
		return list
	}
	for i, c := range []struct {
		l    []api.Portrait
		want [][]int
	}{
		{[]api.Portrait{left(0, 1), beside(2, 0), not(hangs(2, 1))}, pick(4)}, {nil, all}, {[]api.Portrait{hangs(1, 0)}, pick(2, 3)}, {[]api.Portrait{hangs(0, 2)}, pick(3, 5)}, {[]api.Portrait{not(hangs(1, 0))}, pick(0, 1, 4, 5)},
		{[]api.Portrait{left(1, 2)}, pick(0, 2, 3)}, {[]api.Portrait{not(left(1, 2))}, pick(1, 4, 5)}, {[]api.Portrait{beside(0, 1)}, pick(0, 2, 4, 5)}, {[]api.Portrait{beside(1, 0)}, pick(0, 2, 4, 5)}, {[]api.Portrait{not(beside(0, 1))}, pick(1, 3)},
		{[]api.Portrait{farther(0, 1, 0)}, all}, {[]api.Portrait{farther(0, 1, 1)}, pick(1, 3)}, {[]api.Portrait{farther(1, 0, 1)}, pick(1, 3)}, {[]api.Portrait{not(farther(0, 1, 1))}, pick(0, 2, 4, 5)}, {[]api.Portrait{farther(0, 1, 2)}, nil}, {[]api.Portrait{farther(0, 1, 3)}, nil}, {[]api.Portrait{not(farther(0, 1, 3))}, all},
		{[]api.Portrait{hangs(0, 0), not(hangs(0, 0))}, nil}, {[]api.Portrait{not(farther(0, 1, 0))}, nil},
	} {
		for k := 1; k <= 7; k++ {
			want := c.want[:min(k, len(c.want))]
			if l, e := puzzles.Hang(3, c.l, k); !equalLists(l, want) || e != api.OK {
				t.Errorf("%d: Hang of at most %d = %v, %d", i, k, l, e)
			}
		}
		if n, e := puzzles.Hangings(3, c.l); n != len(c.want) || e != api.OK {
			t.Errorf("%d: Hangings = %d, %d", i, n, e)
		}
	}
	if l, e := puzzles.Hang(6, nil, 64); len(l) != 64 || !slices.Equal(l[0], []int{0, 1, 2, 3, 4, 5}) || !slices.Equal(l[63], []int{0, 3, 4, 2, 5, 1}) || e != api.OK {
		t.Errorf("the first 64 hangings: %v, %d", l, e)
	}
	for n, want := range []int{1: 1, 2: 2, 3: 6, 4: 24, 5: 120, 6: 720} {
		if k, e := puzzles.Hangings(n, nil); n > 0 && (k != want || e != api.OK) {
			t.Errorf("Hangings of %d portraits = %d, %d", n, k, e)
		}
	}
}

// P3.5: which sentences are valid.
func TestSentencesAreValid(t *testing.T) {
	for i, c := range []struct {
		s api.Portrait
		e api.Errno
	}{
		{api.Portrait{Kind: api.Hangs}, api.OK}, {api.Portrait{Kind: api.Hangs, A: 2, N: 2}, api.OK}, {api.Portrait{Kind: api.Hangs, A: 3}, api.ErrCase}, {api.Portrait{Kind: api.Hangs, A: -1}, api.ErrCase}, {api.Portrait{Kind: api.Hangs, N: 3}, api.ErrCase}, {api.Portrait{Kind: api.Hangs, N: -1}, api.ErrCase}, {api.Portrait{Kind: api.Hangs, B: 1}, api.ErrCase}, {api.Portrait{Kind: api.Hangs, B: -1}, api.ErrCase},
		{api.Portrait{Kind: api.Left, A: 2, B: 1}, api.OK}, {api.Portrait{Kind: api.Left, A: 1, B: 1}, api.ErrCase}, {api.Portrait{Kind: api.Left, A: 3, B: 1}, api.ErrCase}, {api.Portrait{Kind: api.Left, A: 1, B: 3}, api.ErrCase}, {api.Portrait{Kind: api.Left, A: -1, B: 1}, api.ErrCase}, {api.Portrait{Kind: api.Left, A: 1, B: -1}, api.ErrCase}, {api.Portrait{Kind: api.Left, B: 1, N: 1}, api.ErrCase}, {api.Portrait{Kind: api.Left, B: 1, N: -1}, api.ErrCase},
		{api.Portrait{Kind: api.Beside, A: 2, B: 1}, api.OK}, {api.Portrait{Kind: api.Beside, A: 2, B: 2}, api.ErrCase}, {api.Portrait{Kind: api.Beside, A: 3, B: 1}, api.ErrCase}, {api.Portrait{Kind: api.Beside, A: 2, B: 1, N: 1}, api.ErrCase},
		{api.Portrait{Kind: api.Farther, A: 2}, api.OK}, {api.Portrait{Kind: api.Farther, A: 2, N: 3}, api.OK}, {api.Portrait{Kind: api.Farther, A: 2, N: 4}, api.ErrCase}, {api.Portrait{Kind: api.Farther, A: 2, N: -1}, api.ErrCase}, {api.Portrait{Kind: api.Farther, N: 1}, api.ErrCase}, {api.Portrait{Kind: api.Farther, A: 2, B: 3}, api.ErrCase},
		{api.Portrait{}, api.ErrCase}, {api.Portrait{A: 1}, api.ErrCase}, {api.Portrait{Kind: 5, A: 1}, api.ErrCase}, {api.Portrait{Kind: -1, A: 1}, api.ErrCase}, {api.Portrait{Kind: most, A: least, B: most, N: least}, api.ErrCase},
	} {
		for _, not := range []bool{false, true} {
			s := c.s
			s.Not = not
			l, e := puzzles.Hang(3, []api.Portrait{{Kind: api.Hangs}, s}, 1)
			if e != c.e || e != api.OK && l != nil {
				t.Errorf("%d: Hang = %v, %d, want %d", i, l, e, c.e)
			}
			n, e := puzzles.Hangings(3, []api.Portrait{s})
			if e != c.e || e != api.OK && n != 0 {
				t.Errorf("%d: Hangings = %d, %d, want %d", i, n, e, c.e)
			}
		}
	}
}

// P3.5: the bounds and the order of the errors.
func TestHangErrors(t *testing.T) {
	good, bad := api.Portrait{Kind: api.Hangs}, api.Portrait{}
	many := slices.Repeat([]api.Portrait{good}, 20)
	for i, c := range []struct {
		n    int
		l    []api.Portrait
		most int
		e    api.Errno
		its  api.Errno // the error of Hangings
	}{
		{0, nil, 1, api.ErrArg, api.ErrArg}, {1, nil, 1, api.OK, api.OK}, {6, nil, 1, api.OK, api.OK}, {7, nil, 1, api.ErrArg, api.ErrArg}, {-1, nil, 1, api.ErrArg, api.ErrArg}, {most, nil, 1, api.ErrArg, api.ErrArg},
		{3, many, 1, api.OK, api.OK}, {3, append(many, good), 1, api.ErrMany, api.ErrMany}, {3, append(many, bad), 0, api.ErrMany, api.ErrMany}, {7, append(many, bad), 0, api.ErrArg, api.ErrArg}, {3, []api.Portrait{good, bad}, 0, api.ErrCase, api.ErrCase}, {0, []api.Portrait{bad}, 1, api.ErrArg, api.ErrArg},
		{3, nil, 0, api.ErrArg, api.OK}, {3, nil, 64, api.OK, api.OK}, {3, nil, 65, api.ErrArg, api.OK}, {3, nil, -1, api.ErrArg, api.OK},
	} {
		l, e := puzzles.Hang(c.n, c.l, c.most)
		if e != c.e || e != api.OK && l != nil {
			t.Errorf("%d: Hang = %v, %d, want %d", i, l, e, c.e)
		}
		n, e := puzzles.Hangings(c.n, c.l)
		if e != c.its || e != api.OK && n != 0 {
			t.Errorf("%d: Hangings = %d, %d, want %d", i, n, e, c.its)
		}
	}
}
