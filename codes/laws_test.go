package codes_test

import (
	"reflect"
	"slices"
	"testing"

	"padlock/api"
	"padlock/codes"
)

// P1.2: against the oracle.
func TestReadingsByOracle(t *testing.T) {
	trials(t, 4, func(t *testing.T, x trial) {
		all := allReadings(x.lock, x.clues)
		if n, e := codes.Count(x.lock, x.clues); n != len(all) || e != api.OK {
			t.Errorf("Count = %d, %d, want %d", n, e, len(all))
		}
		for _, most := range []int{1, 3, 64} {
			want := all[:min(most, len(all))]
			if l, e := codes.Readings(x.lock, x.clues, most); !equalLists(l, want) || e != api.OK {
				t.Errorf("Readings of %d = %v, %d, want %v", most, l, e, want)
			}
		}
		i := slices.IndexFunc(all, func(code []int) bool { return !isTrue(x.extra, code) })
		var want []int
		if i >= 0 {
			want = all[i]
		}
		if code, is, e := codes.Implies(x.lock, x.clues, x.extra); !slices.Equal(code, want) || is != (i < 0) || e != api.OK {
			t.Errorf("Implies = %v, %v, %d, want %v", code, is, e, want)
		}
	})
}

// P1.3: against the oracle.
func TestIdleCoreAndPairByOracle(t *testing.T) {
	trials(t, 6, func(t *testing.T, x trial) {
		all := allReadings(x.lock, x.clues)
		enough := func(numbers []int) bool { return equalLists(allReadings(x.lock, pick(x.clues, numbers)), all) }
		var idle []int
		core := but(len(x.clues), -1)
		for i := range x.clues {
			if enough(but(len(x.clues), i)) {
				idle = append(idle, i)
			}
			if rest := slices.DeleteFunc(slices.Clone(core), func(j int) bool { return j == i }); enough(rest) {
				core = rest
			}
		}
		if l, e := codes.Idle(x.lock, x.clues); !slices.Equal(l, idle) || e != api.OK {
			t.Errorf("Idle = %v, %d, want %v", l, e, idle)
		}
		if l, e := codes.Core(x.lock, x.clues); !slices.Equal(l, core) || e != api.OK {
			t.Errorf("Core = %v, %d, want %v", l, e, core)
		}
		a, b, e := codes.Pair(x.lock, x.clues)
		if len(all) < 2 {
			if a != nil || b != nil || e != api.ErrNone {
				t.Errorf("Pair of %v = %v, %v, %d", all, a, b, e)
			}
		} else if !slices.Equal(a, all[0]) || !slices.Equal(b, all[len(all)-1]) || e != api.OK {
			t.Errorf("Pair of %v = %v, %v, %d", all, a, b, e)
		}
	})
}

// P1.4 and P1.10: Choose against all choices, from the one that the chapter prefers on.
func TestChooseByOracle(t *testing.T) {
	trials(t, 6, func(t *testing.T, x trial) {
		choices := subsets(len(x.clues))
		i := slices.IndexFunc(choices, func(numbers []int) bool {
			return equalLists(allReadings(x.lock, pick(x.clues, numbers)), [][]int{x.code})
		})
		l, e := codes.Choose(x.lock, x.clues, x.code)
		if i < 0 && (l != nil || e != api.ErrNone) {
			t.Errorf("Choose = %v, %d, want none", l, e)
		}
		if i >= 0 && (!slices.Equal(l, choices[i]) || e != api.OK) {
			t.Errorf("Choose = %v, %d, want %v", l, e, choices[i])
		}
	})
}

// P1.4 and P1.12: Next against all readings; behind its answer at most worst of them are left.
func TestNextByOracle(t *testing.T) {
	trials(t, 3, func(t *testing.T, x trial) {
		all := allReadings(x.lock, x.clues)
		if len(all) == 0 || len(all) > 200 {
			return
		}
		var best []int
		least := 201
		for _, guess := range all {
			answers, most := map[[2]int]int{}, 0
			for _, code := range all {
				right, common := pegs(code, guess)
				answers[[2]int{right, common}]++
				most = max(most, answers[[2]int{right, common}])
			}
			if most < least {
				best, least = guess, most
			}
		}
		guess, worst, e := codes.Next(x.lock, x.clues)
		if !slices.Equal(guess, best) || worst != least || e != api.OK {
			t.Errorf("Next = %v, %d, %d, want %v, %d", guess, worst, e, best, least)
		}
		for _, code := range all {
			right, common, _ := codes.Answer(x.lock, code, guess)
			told := append(slices.Clone(x.clues), api.Clue{Kind: api.Right, N: right, M: common, Guess: guess})
			if n, e := codes.Count(x.lock, told); n > worst || n < 1 || e != api.OK {
				t.Errorf("behind the guess %v for %v: %d readings, %d", guess, code, n, e)
			}
		}
	})
}

// P1.6: the readings are what Fits accepts; a clue and its opposite share them.
func TestReadingsLaw(t *testing.T) {
	trials(t, 4, func(t *testing.T, x trial) {
		var fitting [][]int
		for _, code := range allCodes(x.lock) {
			clue, is, e := codes.Fits(x.lock, x.clues, code)
			if is != (clue == -1) || e != api.OK {
				t.Errorf("Fits(%v) = %d, %v, %d", code, clue, is, e)
			}
			if want := slices.IndexFunc(x.clues, func(c api.Clue) bool { return !isTrue(c, code) }); clue != want {
				t.Errorf("Fits(%v) = %d, want %d", code, clue, want)
			}
			if is {
				fitting = append(fitting, code)
			}
		}
		n, _ := codes.Count(x.lock, x.clues)
		l, _ := codes.Readings(x.lock, x.clues, 64)
		if n != len(fitting) || !equalLists(l, fitting[:min(64, n)]) {
			t.Errorf("%d readings, but Fits accepts %d", n, len(fitting))
		}
		opposite := x.extra
		opposite.Not = !opposite.Not
		a, _ := codes.Count(x.lock, append(slices.Clone(x.clues), x.extra))
		b, _ := codes.Count(x.lock, append(slices.Clone(x.clues), opposite))
		if a+b != n {
			t.Errorf("%d and %d readings with a clue and its opposite, %d without", a, b, n)
		}
	})
}

// P1.7: one code, or two that differ.
func TestPairLaw(t *testing.T) {
	one, two := 0, 0
	trials(t, 5, func(t *testing.T, x trial) {
		n, _ := codes.Count(x.lock, x.clues)
		a, b, e := codes.Pair(x.lock, x.clues)
		if (e == api.OK) != (n >= 2) {
			t.Errorf("Pair of %d readings: %d", n, e)
		}
		if e == api.OK {
			two++
			_, fitsA, _ := codes.Fits(x.lock, x.clues, a)
			_, fitsB, _ := codes.Fits(x.lock, x.clues, b)
			if !fitsA || !fitsB || slices.Equal(a, b) {
				t.Errorf("Pair = %v, %v", a, b)
			}
		} else if n == 1 {
			one++
			l, _ := codes.Readings(x.lock, x.clues, 64)
			for _, code := range allCodes(x.lock) {
				if _, is, _ := codes.Fits(x.lock, x.clues, code); is != slices.Equal(code, l[0]) {
					t.Errorf("Fits(%v) = %v, but the reading is %v", code, is, l[0])
				}
			}
		}
	})
	if one == 0 || two == 0 {
		t.Errorf("%d trials with one reading, %d with more", one, two)
	}
}

// P1.8 and P1.2: Shows has just the symbols of the readings, in ascending order.
func TestShowsLaw(t *testing.T) {
	trials(t, 4, func(t *testing.T, x trial) {
		want := make([][]int, x.lock.Wheels)
		for _, code := range allReadings(x.lock, x.clues) {
			for w, s := range code {
				want[w] = append(want[w], s)
			}
		}
		for w := range want {
			slices.Sort(want[w])
			want[w] = slices.Compact(want[w])
		}
		if l, e := codes.Shows(x.lock, x.clues); !equalLists(l, want) || e != api.OK {
			t.Errorf("Shows = %v, %d, want %v", l, e, want)
		}
	})
}

// P1.9: no clue of the core is a decoy; what the others imply is idle.
func TestCoreLaw(t *testing.T) {
	dropped := 0
	trials(t, 7, func(t *testing.T, x trial) {
		n, _ := codes.Count(x.lock, x.clues)
		core, _ := codes.Core(x.lock, x.clues)
		kept := pick(x.clues, core)
		if k, _ := codes.Count(x.lock, kept); k != n {
			t.Errorf("the core %v has %d readings, all have %d", core, k, n)
		}
		for i := range kept {
			if k, _ := codes.Count(x.lock, pick(kept, but(len(kept), i))); k <= n {
				t.Errorf("the core %v without its %d. clue has %d readings, all have %d", core, i, k, n)
			}
		}
		dropped += len(x.clues) - len(core)
		idle, _ := codes.Idle(x.lock, x.clues)
		for i, c := range x.clues {
			_, implied, _ := codes.Implies(x.lock, pick(x.clues, but(len(x.clues), i)), c)
			if implied != slices.Contains(idle, i) {
				t.Errorf("the clue %d: implied %v, idle %v", i, implied, idle)
			}
		}
	})
	if dropped == 0 {
		t.Error("no trial has a decoy")
	}
}

// P1.10: with the choice the code is the only reading, and with no smaller one.
func TestChooseLaw(t *testing.T) {
	chosen := 0
	trials(t, 9, func(t *testing.T, x trial) {
		choice, e := codes.Choose(x.lock, x.clues, x.code)
		if e != api.OK {
			return
		}
		chosen++
		l, _ := codes.Readings(x.lock, pick(x.clues, choice), 2)
		if !equalLists(l, [][]int{x.code}) {
			t.Errorf("the choice %v has the readings %v, the code is %v", choice, l, x.code)
		}
		for _, smaller := range subsets(len(x.clues)) {
			if len(smaller) >= len(choice) {
				break
			}
			if n, _ := codes.Count(x.lock, pick(x.clues, smaller)); n == 1 && allTrue(pick(x.clues, smaller), x.code) {
				t.Errorf("%v is a smaller choice than %v", smaller, choice)
			}
		}
	})
	if chosen == 0 {
		t.Error("no trial has a choice")
	}
}

// P1.4 and P1.10: Choose of the most clues for the greatest lock.
func TestChooseOfTheGreatest(t *testing.T) {
	great := api.CodeLock{Wheels: 4, Symbols: 10}
	code := []int{7, 2, 5, 4}
	var pool []api.Clue
	for _, text := range []string{
		"sum 0 3 18", "less 1 0", "less 3 2", "has 5 1", "has 9 0", "right 0 2 5612", "right 1 1 7349", "remain 3 2 0", "not same 0 2", "sum 1 2 7", "sum 0 1 9", "remain 0 5 2",
	} {
		c, e := codes.Parse(great, text)
		if e != api.OK || !isTrue(c, code) {
			t.Fatalf("%q: %d", text, e)
		}
		pool = append(pool, c)
	}
	choice, e := codes.Choose(great, pool, code)
	if e != api.OK {
		t.Fatalf("Choose: %d", e)
	}
	for _, numbers := range subsets(len(pool)) {
		n, _ := codes.Count(great, pick(pool, numbers))
		if (n == 1) != slices.Equal(numbers, choice) {
			t.Errorf("%v has %d readings, Choose = %v", numbers, n, choice)
		}
		if slices.Equal(numbers, choice) {
			break
		}
	}
}

// P1.11: what Answer of all pairs of codes has in common.
func TestAnswerLaw(t *testing.T) {
	for _, l := range []api.CodeLock{{Wheels: 1, Symbols: 2}, {Wheels: 2, Symbols: 10}, {Wheels: 3, Symbols: 4}, {Wheels: 4, Symbols: 4}} {
		all := allCodes(l)
		for _, code := range all {
			if right, common, e := codes.Answer(l, code, code); right != l.Wheels || common != 0 || e != api.OK {
				t.Fatalf("Answer of %v and itself = %d, %d, %d", code, right, common, e)
			}
			for _, guess := range all {
				right, common, _ := codes.Answer(l, code, guess)
				right2, common2, _ := codes.Answer(l, guess, code)
				if right != right2 || common != common2 || right < 0 || common < 0 || right+common > l.Wheels {
					t.Fatalf("Answer of %v and %v = %d, %d; exchanged %d, %d", code, guess, right, common, right2, common2)
				}
			}
		}
	}
}

// P1.12: with more clues there are never more readings.
func TestMoreCluesLaw(t *testing.T) {
	trials(t, 6, func(t *testing.T, x trial) {
		before := len(allCodes(x.lock))
		for i := range len(x.clues) + 1 {
			n, e := codes.Count(x.lock, x.clues[:i])
			if n > before || e != api.OK {
				t.Errorf("%d readings with %d clues, %d with one less", n, i, before)
			}
			before = n
		}
	})
}

// P1.13: Parse of Format of a clue is the clue; another clue has another text.
func TestTextLaw(t *testing.T) {
	var texts = map[string]api.Clue{}
	trials(t, 6, func(t *testing.T, x trial) {
		for _, c := range append(x.clues, x.extra) {
			text, e := codes.Format(x.lock, c)
			if e != api.OK {
				t.Errorf("Format(%+v): %d", c, e)
			}
			if back, e := codes.Parse(x.lock, text); !sameClue(back, c) || e != api.OK {
				t.Errorf("Parse(%q) = %+v, %d, want %+v", text, back, e, c)
			}
			if other, is := texts[text]; is && !sameClue(other, c) {
				t.Errorf("%q is the text of %+v and of %+v", text, other, c)
			}
			texts[text] = c
		}
	})
}

// calls returns the results of all functions for some arguments.
func calls(l api.CodeLock, clues []api.Clue, c api.Clue, code, guess []int, most int, text string) []any {
	var all []any
	add := func(results ...any) { all = append(all, results...) }
	add(codes.Check(l), codes.CheckClue(l, c), codes.CheckCode(l, code))
	right, common, e := codes.Answer(l, code, guess)
	add(right, common, e)
	is, e := codes.Holds(l, c, code)
	add(is, e)
	clue, is, e := codes.Fits(l, clues, code)
	add(clue, is, e)
	n, e := codes.Count(l, clues)
	add(n, e)
	lists, e := codes.Readings(l, clues, most)
	add(lists, e)
	shows, e := codes.Shows(l, clues)
	add(shows, e)
	list, is, e := codes.Implies(l, clues, c)
	add(list, is, e)
	idle, e := codes.Idle(l, clues)
	add(idle, e)
	core, e := codes.Core(l, clues)
	add(core, e)
	a, b, e := codes.Pair(l, clues)
	add(a, b, e)
	choice, e := codes.Choose(l, clues, code)
	add(choice, e)
	next, worst, e := codes.Next(l, clues)
	add(next, worst, e)
	written, e := codes.Format(l, c)
	add(written, e)
	read, e := codes.Parse(l, text)
	add(read, e)
	return all
}

// P0.1: no function panics, whatever the arguments are, and the results depend on them alone.
func TestAnyArguments(t *testing.T) {
	const least, most = -1 << 63, 1<<63 - 1
	numbers := []int{least, -1, 0, 1, 2, 3, 5, 11, most}
	var locks []api.CodeLock
	for _, wheels := range numbers {
		for _, symbols := range numbers {
			locks = append(locks, api.CodeLock{Wheels: wheels, Symbols: symbols})
		}
	}
	var odd []api.Clue
	lists := [][]int{nil, {}, {0}, {0, 1}, {0, 1, 0}, {least, most, 0}, {0, 1, 0, 1, 0}, make([]int, 100)}
	for i := range 400 {
		at := func(k int) int { return numbers[(i/k+i)%len(numbers)] }
		odd = append(odd, api.Clue{Kind: i % 10, A: at(3), B: at(5), N: at(7), M: at(11), Guess: lists[i%len(lists)], Not: i%3 == 0})
	}
	texts := []string{"", "not ", "at \x00 1", "right 1 1 \xff\xfe", "sum 9223372036854775808 0 0", "at 0 1", "less 0 1"}
	for i, l := range locks {
		for j, c := range odd {
			list := lists[(i+j)%len(lists)]
			clues := odd[j : j+min((i+j)%24, len(odd)-j)]
			args := func() []any {
				return calls(l, clues, c, list, lists[j%len(lists)], numbers[j%len(numbers)], texts[(i+j)%len(texts)])
			}
			if a, b := args(), args(); !reflect.DeepEqual(a, b) {
				t.Fatalf("%+v, %+v: %v, then %v", l, c, a, b)
			}
		}
	}
}

// R4: results are new memory, and arguments stay as they are.
func TestMemory(t *testing.T) {
	clues, code, guess := five()[:3], []int{0, 3, 1}, []int{3, 3, 0}
	extra := api.Clue{Kind: api.Right, N: 1, M: 1, Guess: guess}
	run := func() []any {
		return calls(lock, append(clues[:2:2], extra), extra, code, guess, 64, "right 1 1 330")
	}
	before, other := run(), run()
	for _, x := range other {
		spoil(x)
	}
	if after := run(); !reflect.DeepEqual(before, after) {
		t.Errorf("%v, then %v", before, after)
	}
	if !reflect.DeepEqual(clues, five()[:3]) || !slices.Equal(code, []int{0, 3, 1}) || !slices.Equal(guess, []int{3, 3, 0}) {
		t.Errorf("the arguments are now %v, %v, %v", clues, code, guess)
	}
	lists, _ := codes.Readings(lock, nil, 64)
	for _, l := range lists {
		_ = append(l, 9)
	}
	if !equalLists(lists, allCodes(lock)) {
		t.Error("the lists of Readings share memory")
	}
}

// spoil writes over all numbers of a result.
func spoil(x any) {
	switch x := x.(type) {
	case []int:
		for i := range x {
			x[i] = 77
		}
	case [][]int:
		for _, l := range x {
			spoil(l)
		}
	case api.Clue:
		spoil(x.Guess)
	}
}
