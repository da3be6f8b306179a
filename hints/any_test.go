package hints_test

import (
	"reflect"
	"slices"
	"testing"

	"padlock/api"
	"padlock/hints"
)

// spoil writes over all numbers of a result, and behind its lists.
func spoil(v reflect.Value) {
	switch v.Kind() {
	case reflect.Interface:
		spoil(v.Elem())
	case reflect.Struct:
		for i := range v.NumField() {
			spoil(v.Field(i))
		}
	case reflect.Slice:
		for i := range v.Len() {
			spoil(v.Index(i))
		}
		if v.Cap() > v.Len() {
			spoil(v.Slice(0, v.Cap()).Index(v.Len()))
		}
	case reflect.Int:
		if v.CanSet() {
			v.SetInt(77)
		}
	}
}

// given makes what functions are given, mostly without an error.
func (k maker) given(r api.Riddle, pool []api.Aid) given {
	g := given{pool: pool, lock: k.IntN(len(r.Locks))}
	if len(pool) > 0 {
		g.aid, g.ladder = pool[k.IntN(len(pool))], k.Perm(len(pool))
	}
	return g
}

// R4: arguments stay as they are, and results are new memory; results depend on the arguments alone.
func TestMemory(t *testing.T) {
	t.Parallel()
	trials(t, 300, func(t *testing.T, k maker, r api.Riddle, pool []api.Aid) {
		again := k.given(r, pool)
		// The same arguments once more, in memory of their own, and with room behind the lists.
		copied := func() api.Riddle {
			c := api.Riddle{Locks: slices.Clone(r.Locks), Ties: slices.Grow(slices.Clone(r.Ties), 3)}
			for i := range r.Locks {
				c.Codes = append(c.Codes, slices.Clone(r.Codes[i]))
				c.Known = append(c.Known, slices.Grow(slices.Clone(r.Known[i]), 3))
				for j, clue := range c.Known[i] {
					c.Known[i][j].Guess = slices.Clone(clue.Guess)
				}
			}
			return c
		}
		x, g := copied(), again
		g.pool = slices.Clone(pool)
		before, now := calls(x, g), calls(x, g)
		for _, results := range now {
			for _, result := range results {
				spoil(reflect.ValueOf(&result).Elem())
			}
		}
		if after := calls(x, g); !reflect.DeepEqual(before, after) {
			t.Errorf("%v, then %v", before, after)
		}
		if !reflect.DeepEqual(x, copied()) || !reflect.DeepEqual(g, again) {
			t.Errorf("%v is now %v, and %v is now %v", r, x, again, g)
		}
		for i := range x.Known {
			if behind := x.Known[i][:cap(x.Known[i])][len(x.Known[i]):]; slices.ContainsFunc(behind, func(c api.Clue) bool { return c.Kind != 0 }) {
				t.Errorf("behind the clues of %d stand %v", i, behind)
			}
		}
	})
}

// R4: what Tell and From return shares memory neither with the arguments nor within itself.
func TestMemoryOfGuesses(t *testing.T) {
	guess := []int{3, 2}
	clue := api.Clue{Kind: api.Right, Guess: guess, N: 1}
	r := free()
	r.Known[0] = []api.Clue{clue, clue}
	told, e := hints.Tell(r, api.Aid{Clue: clue})
	if e != api.OK || len(told.Known[0]) != 3 {
		t.Fatalf("Tell = %v, %d", told, e)
	}
	g := leaflets()
	for i := range g.Notes[:2] {
		g.Notes[i].Lock, g.Notes[i].Clue = 0, clue
	}
	from, e := hints.From(g, position(g, true, true, false, false, true))
	if e != api.OK || len(from.Known[0]) != 3 {
		t.Fatalf("From = %v, %d", from, e)
	}
	for _, known := range [][]api.Clue{told.Known[0], from.Known[0]} {
		for i := range known {
			known[i].Guess[0] = 77 + i
		}
		for i := range known {
			if !slices.Equal(known[i].Guess, []int{77 + i, 2}) {
				t.Errorf("the guess %d is %v", i, known[i].Guess)
			}
		}
	}
	if !slices.Equal(guess, []int{3, 2}) || !reflect.DeepEqual(g.Notes[4], leaflets().Notes[4]) {
		t.Errorf("the guesses are %v and %v", guess, g.Notes[4])
	}
	spoil(reflect.ValueOf(&from).Elem())
	if !reflect.DeepEqual(g.Locks, leaflets().Locks) || !reflect.DeepEqual(g.Codes, leaflets().Codes) {
		t.Errorf("the game has %v with %v", g.Locks, g.Codes)
	}
	// Locks of which nothing is known, or that show the same, have lists of their own.
	r = simple(2, api.CodeLock{Wheels: 2, Symbols: 2})
	r.Codes[1] = r.Codes[0]
	told, e = hints.Tell(r, api.Aid{Clue: api.Clue{Kind: api.Same, B: 1}})
	if told.Codes[0][0] = 1; e != api.OK || told.Codes[1][0] != 0 || r.Codes[0][0] != 0 {
		t.Errorf("Tell shares the codes %v", told.Codes)
	}
}

// R3: nil lists and empty lists are the same.
func TestEmptyLists(t *testing.T) {
	thin := free()
	fat := free()
	fat.Known[0][0].Guess, fat.Known[1], fat.Ties = []int{}, []api.Clue{}, []api.Tie{}
	g := right()
	h := right()
	for i := range h.pool {
		h.pool[i].Clue.Guess = []int{}
	}
	a, b := calls(thin, g), calls(fat, h)
	for i := range a {
		if called[i] != "Tell" && !reflect.DeepEqual(a[i], b[i]) {
			t.Errorf("%s: %v, and %v", called[i], a[i], b[i])
		}
	}
	g.pool, g.ladder = nil, nil
	h.pool, h.ladder = []api.Aid{}, []int{}
	if a, b := calls(thin, g), calls(thin, h); !reflect.DeepEqual(a[6:], b[6:]) {
		t.Errorf("%v, and %v", a, b)
	}
	if e := hints.Check(api.Riddle{Locks: []api.CodeLock{}, Codes: [][]int{}, Known: [][]api.Clue{}}); e != api.ErrHint {
		t.Errorf("Check of nothing: %d", e)
	}
}

// change sets some numbers of a value, and makes some lists shorter or longer.
func (k maker) change(v reflect.Value, numbers []int, often int) {
	switch v.Kind() {
	case reflect.Struct:
		for i := range v.NumField() {
			k.change(v.Field(i), numbers, often)
		}
	case reflect.Slice:
		if k.IntN(often) == 0 {
			list := reflect.MakeSlice(v.Type(), k.IntN(2*v.Len()+2), 50)
			reflect.Copy(list, v)
			v.Set(list)
		}
		for i := range v.Len() {
			k.change(v.Index(i), numbers, often)
		}
	case reflect.Int:
		if k.IntN(often) == 0 {
			v.SetInt(int64(numbers[k.IntN(len(numbers))]))
		}
	case reflect.Bool:
		if k.IntN(often) == 0 {
			v.SetBool(!v.Bool())
		}
	}
}

// P0.1: no function panics, whatever the arguments are, and the results depend on them alone; with an error they are zero (R2).
func TestAnyArguments(t *testing.T) {
	t.Parallel()
	numbers := []int{least, -3, -2, -1, 0, 1, 2, 3, 4, 7, 8, 10, 11, 20, most - 1, most}
	count := map[any]int{}
	trials(t, 3000, func(t *testing.T, k maker, r api.Riddle, pool []api.Aid) {
		g := k.given(r, pool)
		game := corridor(k, r, pool)
		p := position(game, make([]bool, len(pool))...)
		often := 5 + k.IntN(300)
		k.change(reflect.ValueOf(&r).Elem(), numbers, often)
		k.change(reflect.ValueOf(&game).Elem(), numbers, often)
		k.change(reflect.ValueOf(&p).Elem(), numbers, often)
		k.change(reflect.ValueOf(&g.aid).Elem(), numbers, often)
		k.change(reflect.ValueOf(&g.pool).Elem(), numbers, often)
		k.change(reflect.ValueOf(&g.lock).Elem(), numbers, often)
		k.change(reflect.ValueOf(&g.ladder).Elem(), numbers, often)
		made := func() [][]any {
			from, e := hints.From(game, p)
			return append(calls(r, g), []any{hints.Check(r)}, []any{from, e})
		}
		results := made()
		if again := made(); !reflect.DeepEqual(results, again) {
			t.Fatalf("%v, then %v", results, again)
		}
		for _, l := range results {
			e := l[len(l)-1].(api.Errno)
			if count[e]++; e != api.OK && !isError(l, e) {
				t.Errorf("%v", l)
			}
		}
	})
	for _, e := range []api.Errno{api.OK, api.ErrArg, api.ErrNone, api.ErrHint} {
		if count[e] < 50 {
			t.Errorf("the error %d came %d times", e, count[e])
		}
	}
	huge := api.Riddle{Locks: make([]api.CodeLock, 1<<20), Codes: make([][]int, 1<<20), Known: make([][]api.Clue, 1<<20), Ties: make([]api.Tie, 1<<20)}
	calls(huge, given{pool: make([]api.Aid, 1<<20), lock: most, ladder: make([]int, 1<<20)})
	huge = riddle()
	huge.Ties, huge.Known[1] = make([]api.Tie, 1<<20), make([]api.Clue, 1<<20)
	calls(huge, given{pool: make([]api.Aid, 1<<20), lock: least, ladder: make([]int, 1<<20)})
	calls(riddle(), given{pool: make([]api.Aid, 1<<20), lock: least, ladder: make([]int, 1<<20)})
}
