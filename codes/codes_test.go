package codes_test

import (
	"fmt"
	"math"
	"slices"
	"strings"
	"testing"

	"padlock/api"
	"padlock/codes"
)

// lock is that of the chapter's examples.
var lock = api.CodeLock{Wheels: 3, Symbols: 4}

// five returns the clues of the examples, with the further clue 4.
func five() []api.Clue {
	return []api.Clue{
		{Kind: api.Sum, A: 0, B: 2, N: 4},
		{Kind: api.Less, A: 0, B: 1},
		{Kind: api.At, A: 2, N: 1},
		{Kind: api.Has, N: 0, M: 1},
		{Kind: api.At, A: 0, N: 0},
	}
}

// copies returns a clue n times.
func copies(c api.Clue, n int) []api.Clue { return slices.Repeat([]api.Clue{c}, n) }

var (
	first  = api.Clue{Kind: api.At}  // the wheel 0 shows 0
	never  = api.Clue{Kind: api.Sum} // with N 99: no code has that sum
	bad    = api.Clue{Kind: 8}       // a clue of no kind
	noLock = api.CodeLock{Wheels: 5, Symbols: 4}
)

func init() { never.N = 99 }

// P1.1: Check.
func TestCheck(t *testing.T) {
	for _, wheels := range []int{math.MinInt, -1, 0, 1, 2, 3, 4, 5, math.MaxInt} {
		for _, symbols := range []int{math.MinInt, -1, 0, 1, 2, 9, 10, 11, math.MaxInt} {
			want := api.ErrLock
			if 1 <= wheels && wheels <= 4 && 2 <= symbols && symbols <= 10 {
				want = api.OK
			}
			if e := codes.Check(api.CodeLock{Wheels: wheels, Symbols: symbols}); e != want {
				t.Errorf("Check of %d wheels, %d symbols: %d, want %d", wheels, symbols, e, want)
			}
		}
	}
}

// P1.1: CheckClue accepts the bounds of each field.
func TestCheckClueAccepts(t *testing.T) {
	for _, c := range []api.Clue{
		{Kind: api.At, A: 0, N: 0}, {Kind: api.At, A: 2, N: 3}, {Kind: api.At, Guess: []int{}},
		{Kind: api.Sum, A: 0, B: 0, N: 0}, {Kind: api.Sum, A: 2, B: 2, N: 100}, {Kind: api.Sum, A: 0, B: 2, N: 50},
		{Kind: api.Less, A: 0, B: 2}, {Kind: api.Less, A: 2, B: 0},
		{Kind: api.Same, A: 0, B: 1}, {Kind: api.Same, A: 2, B: 1},
		{Kind: api.Has, N: 0, M: 0}, {Kind: api.Has, N: 3, M: 3},
		{Kind: api.Right, Guess: []int{0, 0, 0}}, {Kind: api.Right, N: 3, M: 3, Guess: []int{3, 3, 3}},
		{Kind: api.Remain, A: 0, N: 2, M: 0}, {Kind: api.Remain, A: 2, N: 2, M: 1}, {Kind: api.Remain, N: 10, M: 9},
	} {
		for _, c.Not = range []bool{false, true} {
			if e := codes.CheckClue(lock, c); e != api.OK {
				t.Errorf("CheckClue(%+v): %d", c, e)
			}
		}
	}
}

// P1.1: CheckClue refuses what is beyond the bounds, and fields that are not in use.
func TestCheckClueRefuses(t *testing.T) {
	guess := []int{0, 0, 0}
	for _, c := range []api.Clue{
		{}, {Kind: -1}, {Kind: 8}, {Kind: math.MinInt}, {Kind: math.MaxInt},
		{Kind: api.At, A: -1}, {Kind: api.At, A: 3}, {Kind: api.At, N: -1}, {Kind: api.At, N: 4},
		{Kind: api.At, B: 1}, {Kind: api.At, M: 1}, {Kind: api.At, Guess: guess},
		{Kind: api.Sum, A: -1}, {Kind: api.Sum, B: 3}, {Kind: api.Sum, A: 2, B: 1}, {Kind: api.Sum, A: 3, B: 3},
		{Kind: api.Sum, N: -1}, {Kind: api.Sum, N: 101}, {Kind: api.Sum, M: 1}, {Kind: api.Sum, Guess: guess},
		{Kind: api.Less}, {Kind: api.Less, A: 1, B: 1}, {Kind: api.Less, A: 3}, {Kind: api.Less, B: 3},
		{Kind: api.Less, A: -1}, {Kind: api.Less, B: -1},
		{Kind: api.Less, B: 1, N: 1}, {Kind: api.Less, B: 1, M: 1}, {Kind: api.Less, B: 1, Guess: guess},
		{Kind: api.Same}, {Kind: api.Same, A: 2, B: 2}, {Kind: api.Same, A: 3}, {Kind: api.Same, B: 3},
		{Kind: api.Same, A: -1}, {Kind: api.Same, B: -1},
		{Kind: api.Same, B: 1, N: 1}, {Kind: api.Same, B: 1, M: 1}, {Kind: api.Same, B: 1, Guess: guess},
		{Kind: api.Has, N: -1}, {Kind: api.Has, N: 4}, {Kind: api.Has, M: -1}, {Kind: api.Has, M: 4},
		{Kind: api.Has, A: 1}, {Kind: api.Has, B: 1}, {Kind: api.Has, Guess: guess},
		{Kind: api.Right}, {Kind: api.Right, Guess: []int{0, 0}}, {Kind: api.Right, Guess: []int{0, 0, 0, 0}},
		{Kind: api.Right, Guess: []int{0, 0, 4}}, {Kind: api.Right, Guess: []int{-1, 0, 0}},
		{Kind: api.Right, N: -1, Guess: guess}, {Kind: api.Right, N: 4, Guess: guess},
		{Kind: api.Right, M: -1, Guess: guess}, {Kind: api.Right, M: 4, Guess: guess},
		{Kind: api.Right, A: 1, Guess: guess}, {Kind: api.Right, B: 1, Guess: guess},
		{Kind: api.Remain, A: -1, N: 2}, {Kind: api.Remain, A: 3, N: 2}, {Kind: api.Remain},
		{Kind: api.Remain, N: 1}, {Kind: api.Remain, N: 11}, {Kind: api.Remain, N: -2},
		{Kind: api.Remain, N: 2, M: -1}, {Kind: api.Remain, N: 2, M: 2}, {Kind: api.Remain, N: 10, M: 10},
		{Kind: api.Remain, B: 1, N: 2}, {Kind: api.Remain, N: 2, Guess: guess},
	} {
		for _, c.Not = range []bool{false, true} {
			if e := codes.CheckClue(lock, c); e != api.ErrClue {
				t.Errorf("CheckClue(%+v): %d", c, e)
			}
		}
	}
	if e := codes.CheckClue(noLock, bad); e != api.ErrLock {
		t.Errorf("CheckClue of no lock: %d", e)
	}
}

// P1.1: CheckCode.
func TestCheckCode(t *testing.T) {
	for _, code := range [][]int{nil, {}, {0, 1}, {0, 1, 4}, {4, 0, 0}, {0, -1, 0}, {0, 0, 0, 0}, {0, 0, math.MaxInt}} {
		if e := codes.CheckCode(lock, code); e != api.ErrCode {
			t.Errorf("CheckCode(%v): %d", code, e)
		}
	}
	for _, code := range [][]int{{0, 0, 0}, {3, 3, 3}, {3, 0, 2}} {
		if e := codes.CheckCode(lock, code); e != api.OK {
			t.Errorf("CheckCode(%v): %d", code, e)
		}
	}
	if e := codes.CheckCode(noLock, []int{0, 0, 0, 0, 0}); e != api.ErrLock {
		t.Errorf("CheckCode of no lock: %d", e)
	}
}

// P1.1: Answer, with the example, and against the oracle.
func TestAnswer(t *testing.T) {
	if right, common, e := codes.Answer(lock, []int{0, 3, 1}, []int{3, 3, 0}); right != 1 || common != 1 || e != api.OK {
		t.Errorf("Answer of 0 3 1 and 3 3 0 = %d, %d, %d", right, common, e)
	}
	for _, l := range []api.CodeLock{{Wheels: 1, Symbols: 10}, {Wheels: 2, Symbols: 4}, {Wheels: 3, Symbols: 3}, {Wheels: 4, Symbols: 3}} {
		for _, code := range allCodes(l) {
			for _, guess := range allCodes(l) {
				a, b := pegs(code, guess)
				if right, common, e := codes.Answer(l, code, guess); right != a || common != b || e != api.OK {
					t.Fatalf("Answer of %v, %v = %d, %d, %d, want %d, %d", code, guess, right, common, e, a, b)
				}
			}
		}
	}
}

// P1.1: Holds, one clue of each kind, on both sides.
func TestHolds(t *testing.T) {
	for _, x := range []struct {
		text string
		want bool
	}{
		{"at 1 3", true}, {"at 1 2", false},
		{"sum 0 2 4", true}, {"sum 1 2 4", true}, {"sum 0 1 3", true}, {"sum 2 2 1", true}, {"sum 0 2 3", false}, {"sum 0 1 4", false},
		{"less 0 1", true}, {"less 1 0", false}, {"less 1 2", false},
		{"same 0 1", false}, {"same 1 2", false},
		{"has 0 1", true}, {"has 2 0", true}, {"has 2 1", false}, {"has 0 0", false},
		{"right 1 1 330", true}, {"right 1 0 330", false}, {"right 0 1 330", false}, {"right 1 2 330", false}, {"right 3 0 031", true}, {"right 0 3 103", true},
		{"remain 1 2 1", true}, {"remain 1 2 0", false}, {"remain 1 3 0", true}, {"remain 1 10 3", true},
	} {
		c, e := codes.Parse(lock, x.text)
		if e != api.OK {
			t.Fatalf("Parse(%q): %d", x.text, e)
		}
		for _, c.Not = range []bool{false, true} {
			if is, e := codes.Holds(lock, c, []int{0, 3, 1}); is != (x.want != c.Not) || e != api.OK {
				t.Errorf("Holds(%q, not %v) = %v, %d", x.text, c.Not, is, e)
			}
		}
	}
	if is, e := codes.Holds(lock, api.Clue{Kind: api.Same, A: 0, B: 2}, []int{2, 0, 2}); !is || e != api.OK {
		t.Errorf("Holds of same 0 2 for 2 0 2 = %v, %d", is, e)
	}
	// The wheels that the lock does not have show nothing, not even 0.
	if is, e := codes.Holds(lock, api.Clue{Kind: api.Has, N: 0, M: 3}, []int{0, 0, 0}); !is || e != api.OK {
		t.Errorf("Holds of has 0 3 for 0 0 0 = %v, %d", is, e)
	}
}

// P1.1: Fits returns the first clue that does not hold.
func TestFits(t *testing.T) {
	for _, x := range []struct {
		code []int
		clue int
	}{{[]int{0, 3, 1}, -1}, {[]int{1, 2, 1}, 3}, {[]int{0, 2, 2}, 2}, {[]int{3, 0, 1}, 1}, {[]int{0, 0, 0}, 0}} {
		if i, is, e := codes.Fits(lock, five(), x.code); i != x.clue || is != (x.clue == -1) || e != api.OK {
			t.Errorf("Fits(%v) = %d, %v, %d, want %d", x.code, i, is, e, x.clue)
		}
	}
	for _, none := range [][]api.Clue{nil, {}} {
		if i, is, e := codes.Fits(lock, none, []int{0, 0, 0}); i != -1 || !is || e != api.OK {
			t.Errorf("Fits of no clues = %d, %v, %d", i, is, e)
		}
	}
	if i, is, e := codes.Fits(lock, copies(first, 20), []int{0, 0, 0}); i != -1 || !is || e != api.OK {
		t.Errorf("Fits of 20 clues = %d, %v, %d", i, is, e)
	}
}

// P1.2: Count and Readings, with the examples.
func TestReadings(t *testing.T) {
	for n, want := range []int{64, 12, 5, 2, 1, 1} {
		if k, e := codes.Count(lock, five()[:n]); k != want || e != api.OK {
			t.Errorf("Count of %d clues = %d, %d", n, k, e)
		}
	}
	if n, e := codes.Count(api.CodeLock{Wheels: 4, Symbols: 10}, nil); n != 10000 || e != api.OK {
		t.Errorf("Count of the greatest lock = %d, %d", n, e)
	}
	if n, e := codes.Count(lock, []api.Clue{never}); n != 0 || e != api.OK {
		t.Errorf("Count of what never holds = %d, %d", n, e)
	}
	for _, x := range []struct {
		n, most int
		want    string
	}{{3, 64, "[[0 3 1] [1 2 1]]"}, {3, 2, "[[0 3 1] [1 2 1]]"}, {3, 1, "[[0 3 1]]"}, {4, 64, "[[0 3 1]]"}, {0, 2, "[[0 0 0] [0 0 1]]"}} {
		if l, e := codes.Readings(lock, five()[:x.n], x.most); fmt.Sprint(l) != x.want || e != api.OK {
			t.Errorf("Readings of %d clues, %d = %v, %d", x.n, x.most, l, e)
		}
	}
	if l, e := codes.Readings(lock, nil, 64); len(l) != 64 || e != api.OK {
		t.Errorf("Readings of none: %d, %d", len(l), e)
	}
	if l, e := codes.Readings(lock, []api.Clue{never}, 1); len(l) != 0 || e != api.OK {
		t.Errorf("Readings of what never holds: %v, %d", l, e)
	}
	for _, most := range []int{math.MinInt, -1, 0, 65, math.MaxInt} {
		if l, e := codes.Readings(lock, nil, most); l != nil || e != api.ErrArg {
			t.Errorf("Readings of %d: %v, %d", most, l, e)
		}
		if _, e := codes.Readings(lock, []api.Clue{bad}, most); e != api.ErrClue {
			t.Errorf("Readings of %d with a bad clue: %d", most, e)
		}
	}
}

// P1.2: Shows and Implies, with the examples.
func TestShowsAndImplies(t *testing.T) {
	for _, x := range []struct {
		clues []api.Clue
		want  string
	}{{five()[:3], "[[0 1] [2 3] [1]]"}, {five(), "[[0] [3] [1]]"}, {nil, "[[0 1 2 3] [0 1 2 3] [0 1 2 3]]"}, {[]api.Clue{never}, "[[] [] []]"}} {
		if l, e := codes.Shows(lock, x.clues); fmt.Sprint(l) != x.want || e != api.OK {
			t.Errorf("Shows = %v, %d, want %s", l, e, x.want)
		}
	}
	for _, x := range []struct {
		clues []api.Clue
		c     api.Clue
		want  []int
	}{
		{five()[:3], api.Clue{Kind: api.At, A: 1, N: 3, Not: true}, []int{0, 3, 1}},
		{five()[:3], api.Clue{Kind: api.At, A: 1, N: 3}, []int{1, 2, 1}},
		{five()[:3], api.Clue{Kind: api.At, A: 1, Not: true}, nil},
		{five()[:3], five()[1], nil},
		{nil, first, []int{1, 0, 0}},
		{[]api.Clue{never}, first, nil},
		{[]api.Clue{never}, never, nil},
	} {
		if code, is, e := codes.Implies(lock, x.clues, x.c); !slices.Equal(code, x.want) || is != (x.want == nil) || e != api.OK {
			t.Errorf("Implies of %+v = %v, %v, %d, want %v", x.c, code, is, e, x.want)
		}
	}
}

// P1.3: Idle, Core and Pair, with the examples.
func TestIdleCoreAndPair(t *testing.T) {
	for _, x := range []struct {
		clues      []api.Clue
		idle, core string
	}{
		{nil, "[]", "[]"},
		{five()[:4], "[]", "[0 1 2 3]"},
		{five(), "[1 3 4]", "[0 2 4]"},
		{copies(first, 3), "[0 1 2]", "[2]"},
		{copies(first, 20), "[0 1 2 3 4 5 6 7 8 9 10 11 12 13 14 15 16 17 18 19]", "[19]"},
		{[]api.Clue{first}, "[]", "[0]"},
		{[]api.Clue{{Kind: api.Sum, B: 2, N: 99, Not: true}}, "[0]", "[]"}, // says nothing
		{[]api.Clue{first, never}, "[0]", "[1]"},
	} {
		if l, e := codes.Idle(lock, x.clues); fmt.Sprint(l) != x.idle || e != api.OK {
			t.Errorf("Idle = %v, %d, want %s", l, e, x.idle)
		}
		if l, e := codes.Core(lock, x.clues); fmt.Sprint(l) != x.core || e != api.OK {
			t.Errorf("Core = %v, %d, want %s", l, e, x.core)
		}
	}
	for _, x := range []struct {
		clues []api.Clue
		want  string
		e     api.Errno
	}{
		{nil, "[0 0 0] [3 3 3]", api.OK},
		{five()[:1], "[0 1 3] [3 1 0]", api.OK},
		{five()[:3], "[0 3 1] [1 2 1]", api.OK},
		{five()[:4], "[] []", api.ErrNone},
		{[]api.Clue{never}, "[] []", api.ErrNone},
	} {
		if a, b, e := codes.Pair(lock, x.clues); fmt.Sprint(a, b) != x.want || e != x.e {
			t.Errorf("Pair = %v, %v, %d, want %s, %d", a, b, e, x.want, x.e)
		}
	}
}

// P1.4: Choose.
func TestChoose(t *testing.T) {
	code := []int{0, 3, 1}
	twice := append(five(), five()...)
	for _, x := range []struct {
		pool []api.Clue
		want string
		e    api.Errno
	}{
		{five(), "[0 2 4]", api.OK},
		{five()[:4], "[0 1 2 3]", api.OK},
		{five()[:3], "[]", api.ErrNone},
		{nil, "[]", api.ErrNone},
		{twice, "[0 2 4]", api.OK},
		{append(twice, api.Clue{Kind: api.Right, N: 3, Guess: code}), "[10]", api.OK},
		{append(twice, first, first), "[0 2 4]", api.OK},
		{append(twice, first, first, first), "[]", api.ErrMany},
		{append([]api.Clue{never, {Kind: api.At, A: 1, N: 1}}, five()...), "[2 4 6]", api.OK}, // with two that do not hold
	} {
		if l, e := codes.Choose(lock, x.pool, code); fmt.Sprint(l) != x.want || e != x.e {
			t.Errorf("Choose of %d = %v, %d, want %s, %d", len(x.pool), l, e, x.want, x.e)
		}
	}
	if l, e := codes.Choose(lock, five(), []int{1, 2, 1}); l != nil || e != api.ErrNone {
		t.Errorf("Choose for a code that is no reading = %v, %d", l, e)
	}
	for _, x := range []struct {
		l    api.CodeLock
		pool []api.Clue
		code []int
		want api.Errno
	}{
		{noLock, copies(bad, 13), nil, api.ErrLock}, {lock, copies(bad, 13), nil, api.ErrMany},
		{lock, copies(bad, 12), nil, api.ErrClue}, {lock, nil, nil, api.ErrCode},
	} {
		if l, e := codes.Choose(x.l, x.pool, x.code); l != nil || e != x.want {
			t.Errorf("Choose = %v, %d, want the error %d", l, e, x.want)
		}
	}
}

// P1.4: Next.
func TestNext(t *testing.T) {
	if guess, worst, e := codes.Next(lock, five()[:3]); fmt.Sprint(guess) != "[0 3 1]" || worst != 1 || e != api.OK {
		t.Errorf("Next = %v, %d, %d", guess, worst, e)
	}
	if guess, worst, e := codes.Next(lock, five()); fmt.Sprint(guess) != "[0 3 1]" || worst != 1 || e != api.OK {
		t.Errorf("Next of one reading = %v, %d, %d", guess, worst, e)
	}
	if guess, worst, e := codes.Next(lock, []api.Clue{never}); guess != nil || worst != 0 || e != api.ErrNone {
		t.Errorf("Next of no reading = %v, %d, %d", guess, worst, e)
	}
	// Of the 216 codes 15 have the sum 4, and one has the sum 0.
	six := api.CodeLock{Wheels: 3, Symbols: 6}
	without := func(sums ...int) []api.Clue {
		var list []api.Clue
		for _, n := range sums {
			list = append(list, api.Clue{Kind: api.Sum, B: 2, N: n, Not: true})
		}
		return list
	}
	for _, x := range []struct {
		clues []api.Clue
		count int
		want  api.Errno
	}{{nil, 216, api.ErrMany}, {without(4), 201, api.ErrMany}, {without(4, 0), 200, api.OK}} {
		if n, e := codes.Count(six, x.clues); n != x.count || e != api.OK {
			t.Fatalf("Count = %d, %d, want %d", n, e, x.count)
		}
		guess, worst, e := codes.Next(six, x.clues)
		if e != x.want || (guess != nil) != (e == api.OK) || (worst != 0) != (e == api.OK) {
			t.Errorf("Next of %d readings = %v, %d, %d", x.count, guess, worst, e)
		}
	}
}

// P1.5: Format and Parse, clue by clue.
func TestText(t *testing.T) {
	for _, x := range []struct {
		c api.Clue
		s string
	}{
		{api.Clue{Kind: api.At, A: 2, N: 1}, "at 2 1"},
		{api.Clue{Kind: api.Sum, A: 1, B: 2, N: 100}, "sum 1 2 100"},
		{api.Clue{Kind: api.Sum, B: 2, N: 4, Not: true}, "not sum 0 2 4"},
		{api.Clue{Kind: api.Less, B: 1}, "less 0 1"},
		{api.Clue{Kind: api.Same, A: 2}, "same 2 0"},
		{api.Clue{Kind: api.Has, N: 3, M: 2}, "has 3 2"},
		{api.Clue{Kind: api.Right, N: 1, M: 2, Guess: []int{0, 3, 1}}, "right 1 2 031"},
		{api.Clue{Kind: api.Right, Guess: []int{0, 0, 0}, Not: true}, "not right 0 0 000"},
		{api.Clue{Kind: api.Remain, A: 1, N: 10, M: 9}, "remain 1 10 9"},
	} {
		if s, e := codes.Format(lock, x.c); s != x.s || e != api.OK {
			t.Errorf("Format = %q, %d, want %q", s, e, x.s)
		}
		if c, e := codes.Parse(lock, x.s); !sameClue(c, x.c) || e != api.OK {
			t.Errorf("Parse(%q) = %+v, %d", x.s, c, e)
		}
	}
	if s, e := codes.Format(lock, bad); s != "" || e != api.ErrClue {
		t.Errorf("Format of a bad clue = %q, %d", s, e)
	}
	if s, e := codes.Format(noLock, bad); s != "" || e != api.ErrLock {
		t.Errorf("Format of no lock = %q, %d", s, e)
	}
	great := api.CodeLock{Wheels: 4, Symbols: 10}
	if c, e := codes.Parse(great, "right 4 0 9876"); !sameClue(c, api.Clue{Kind: api.Right, N: 4, Guess: []int{9, 8, 7, 6}}) || e != api.OK {
		t.Errorf("Parse of four wheels = %+v, %d", c, e)
	}
}

// P1.5: what Parse refuses.
func TestParseRefuses(t *testing.T) {
	for _, s := range []string{
		"", " ", "not", "not ", "not at", "at", "at ", "at 0", "at 0 ", "at 0 1 ", " at 0 1", "at  0 1", "at 0  1", "at 0 1 0", "at 0 1\n", "at\t0 1",
		"At 0 1", "AT 0 1", "att 0 1", "a 0 1", "not not at 0 1", "NOT at 0 1", "not  at 0 1", "nota 0 1",
		"at 0 01", "at 00 1", "at 0 001", "at 0 000", "at 1000 0", "at 0 1000", "at +0 1", "at -1 0", "at 0 -0", "at 0 1.", "at 0 0x1", "at 0 1_0", "at 0 \u0661", "at 0 \xff", "at 0 /", "at 0 :",
		"sum 0 1", "sum 0 1 2 3", "less 0", "less 0 1 2", "same 0", "same 0 1 2", "has 0", "has 0 1 2", "remain 0 2", "remain 0 2 0 0",
		"right 0 0", "right 0 0 ", "right 0 0 00000", "right 0 0 0 0 0", "right 0 0 00a", "right 0 0 -00", "right 00 0 000", "right 0 01 000", "right 0 0 000 ",
	} {
		if c, e := codes.Parse(lock, s); !sameClue(c, api.Clue{}) || e != api.ErrForm {
			t.Errorf("Parse(%q) = %+v, %d", s, c, e)
		}
	}
	for _, s := range []string{
		"at 0 4", "at 3 0", "at 999 0", "sum 1 0 0", "sum 0 1 101", "less 1 1", "same 0 0", "has 4 0", "has 0 4", "right 4 0 000", "right 0 4 000",
		"right 0 0 0", "right 0 0 00", "right 0 0 0000", "right 0 0 004", "right 0 0 999", "remain 0 1 0", "remain 0 11 0", "remain 0 3 3",
	} {
		if c, e := codes.Parse(lock, s); !sameClue(c, api.Clue{}) || e != api.ErrClue {
			t.Errorf("Parse(%q) = %+v, %d", s, c, e)
		}
	}
	for _, x := range []struct {
		l    api.CodeLock
		n    int
		want api.Errno
	}{{lock, api.MaxText, api.ErrForm}, {lock, api.MaxText + 1, api.ErrMany}, {noLock, api.MaxText + 1, api.ErrLock}} {
		for _, letter := range []string{"a", " ", "0"} {
			if c, e := codes.Parse(x.l, strings.Repeat(letter, x.n)); !sameClue(c, api.Clue{}) || e != x.want {
				t.Errorf("Parse of %d bytes = %+v, %d, want %d", x.n, c, e, x.want)
			}
		}
	}
}

// P1.1 to P1.4: the order of the errors of a lock, clues, a clue and codes.
func TestOrderOfErrors(t *testing.T) {
	var none []int
	code := []int{0, 0, 0}
	holds := func(l api.CodeLock, c api.Clue, code []int) api.Errno {
		is, e := codes.Holds(l, c, code)
		if is {
			t.Error("Holds is true with an error")
		}
		return e
	}
	answer := func(l api.CodeLock, code, guess []int) api.Errno {
		right, common, e := codes.Answer(l, code, guess)
		if right != 0 || common != 0 {
			t.Errorf("Answer = %d, %d with an error", right, common)
		}
		return e
	}
	for i, x := range []struct{ got, want api.Errno }{
		{answer(noLock, none, none), api.ErrLock}, {answer(lock, none, code), api.ErrCode}, {answer(lock, code, none), api.ErrCode},
		{holds(noLock, bad, none), api.ErrLock}, {holds(lock, bad, none), api.ErrClue}, {holds(lock, first, none), api.ErrCode},
	} {
		if x.got != x.want {
			t.Errorf("call %d: %d, want %d", i, x.got, x.want)
		}
	}
	for _, x := range []struct {
		l     api.CodeLock
		clues []api.Clue
		c     api.Clue
		code  []int
		want  api.Errno
	}{
		{noLock, copies(bad, 21), bad, none, api.ErrLock},
		{lock, copies(bad, 21), bad, none, api.ErrMany},
		{lock, copies(first, 21), bad, none, api.ErrMany},
		{lock, copies(bad, 20), bad, none, api.ErrClue},
		{lock, append(copies(first, 19), bad), first, code, api.ErrClue},
	} {
		for name, e := range listErrors(t, x.l, x.clues, x.c, x.code) {
			if e != x.want {
				t.Errorf("%s of %d clues: %d, want %d", name, len(x.clues), e, x.want)
			}
		}
	}
	if _, is, e := codes.Implies(lock, nil, bad); is || e != api.ErrClue {
		t.Errorf("Implies of a bad clue: %v, %d", is, e)
	}
	if clue, is, e := codes.Fits(lock, nil, none); clue != 0 || is || e != api.ErrCode {
		t.Errorf("Fits of no code: %d, %v, %d", clue, is, e)
	}
}

// listErrors returns the errors of the functions with a list of clues; their other results must be zero.
func listErrors(t *testing.T, l api.CodeLock, clues []api.Clue, c api.Clue, code []int) map[string]api.Errno {
	errors := map[string]api.Errno{}
	note := func(name string, zero bool, e api.Errno) {
		if errors[name] = e; !zero {
			t.Errorf("%s: a result is not zero with the error %d", name, e)
		}
	}
	clue, is, e := codes.Fits(l, clues, code)
	note("Fits", clue == 0 && !is, e)
	n, e := codes.Count(l, clues)
	note("Count", n == 0, e)
	lists, e := codes.Readings(l, clues, 0)
	note("Readings", lists == nil, e)
	lists, e = codes.Shows(l, clues)
	note("Shows", lists == nil, e)
	a, is, e := codes.Implies(l, clues, c)
	note("Implies", a == nil && !is, e)
	a, e = codes.Idle(l, clues)
	note("Idle", a == nil, e)
	a, e = codes.Core(l, clues)
	note("Core", a == nil, e)
	a, b, e := codes.Pair(l, clues)
	note("Pair", a == nil && b == nil, e)
	a, n, e = codes.Next(l, clues)
	note("Next", a == nil && n == 0, e)
	return errors
}

// sameClue takes a nil guess for an empty one.
func sameClue(a, b api.Clue) bool {
	return a.Kind == b.Kind && a.A == b.A && a.B == b.B && a.N == b.N && a.M == b.M && a.Not == b.Not && slices.Equal(a.Guess, b.Guess)
}
