package search_test

import (
	"math/big"
	"reflect"
	"slices"
	"testing"

	"padlock/api"
	"padlock/search"
)

// mind makes a mind, mostly with a memory that matters.
func (k maker) mind(a atlas) api.Mind {
	return api.Mind{Memory: k.IntN(a.edges() + 3), Turn: k.IntN(5)}
}

// P6.1: maps with other distances against the oracle.
func TestCheckByOracle(t *testing.T) {
	t.Parallel()
	count := map[bool]int{}
	trials(t, 2000, func(t *testing.T, k maker, a atlas) {
		x := a.graph()
		if e := search.Check(x, a.distances); e != api.OK {
			t.Errorf("Check of %v: %d", a, e)
		}
		for range 1 + k.IntN(2) {
			i := k.IntN(len(a.to))
			a.distances[i] = []int{0, -1, -2, a.distances[i] + 1, a.distances[i] - 1, 1}[k.IntN(6)]
		}
		fits := a.fits()
		if e := search.Check(x, a.distances); (e == api.OK) != fits || e != api.OK && e != api.ErrModel {
			t.Errorf("Check of %v: %d", a, e)
		}
		count[fits]++
	})
	if count[true] < 200 || count[false] < 200 {
		t.Errorf("so many fit: %v", count)
	}
}

// P6.1 and P6.4: lists and temptations against the oracle.
func TestListsByOracle(t *testing.T) {
	t.Parallel()
	several := 0
	trials(t, 3000, func(t *testing.T, k maker, a atlas) {
		x := a.graph()
		if l, e := search.Wrong(x, a.distances); e != api.OK || !slices.Equal(l, a.wrong()) {
			t.Errorf("Wrong of %v = %v, %d", a, l, e)
		}
		if l, e := search.Widths(x, a.distances); e != api.OK || !slices.Equal(l, a.widths()) {
			t.Errorf("Widths of %v = %v, %d", a, l, e)
		}
		choices, found := a.choices()
		if l, e := search.Choices(x, a.distances); e != errorUnless(found) || !slices.Equal(l, choices) {
			t.Errorf("Choices of %v = %v, %d", a, l, e)
		}
		list := append(a.lure(), link{})
		if p, edge, e := search.Lure(x, a.distances); (link{p, edge}) != list[0] || e != errorUnless(len(list) > 1) {
			t.Errorf("Lure of %v = %d, %d, %d", a, p, edge, e)
		}
		if len(list) > 3 {
			several++
		}
	})
	if several < 100 {
		t.Errorf("only %d maps have several temptations", several)
	}
}

// errorUnless returns ErrNone unless something is found.
func errorUnless(found bool) api.Errno {
	if found {
		return api.OK
	}
	return api.ErrNone
}

// P6.2: chances against the oracle, which goes backwards.
func TestChanceByOracle(t *testing.T) {
	t.Parallel()
	bound := big.NewInt(api.MaxDen)
	count := map[api.Errno]int{}
	trials(t, 1000, func(t *testing.T, k maker, a atlas) {
		moves := k.IntN(21)
		num, den, e := search.Chance(a.graph(), a.distances, moves)
		want, wrong := a.chance(moves)[0], api.OK
		if new(big.Int).Exp(a.parts(), big.NewInt(int64(moves)), nil).Cmp(bound) > 0 {
			want, wrong = new(big.Rat), api.ErrMany
		}
		if e != wrong || e == api.OK && (big.NewInt(int64(num)).Cmp(want.Num()) != 0 || big.NewInt(int64(den)).Cmp(want.Denom()) != 0) {
			t.Errorf("Chance of %v with %d moves = %d/%d, %d, want %v, %d", a, moves, num, den, e, want, wrong)
		}
		count[e]++
	})
	if count[api.OK] < 100 || count[api.ErrMany] < 100 {
		t.Errorf("so many: %v", count)
	}
}

// P6.3: searches against the oracle, which looks at all ways in each step.
func TestSearchByOracle(t *testing.T) {
	t.Parallel()
	long := 0
	trials(t, 3000, func(t *testing.T, k maker, a atlas) {
		m, limit := k.mind(a), k.IntN(200)
		want, finished := a.search(m, limit)
		trail, done, e := search.Search(a.graph(), a.distances, m, limit)
		if !slices.Equal(trail, want) || done != finished || e != api.OK {
			t.Errorf("Search of %v with %v and %d = %v, %v, %d, want %v, %v", a, m, limit, trail, done, e, want, finished)
		}
		if done && len(trail) > 10 {
			long++
		}
	})
	if long < 100 {
		t.Errorf("only %d searches are long", long)
	}
}

// P6.3 and P6.9: Worst and Mean against the oracle; Mean is between the distance and Worst.
func TestTurnsByOracle(t *testing.T) {
	t.Parallel()
	count := map[bool]int{}
	trials(t, 700, func(t *testing.T, k maker, a atlas) {
		memory, limit := k.IntN(a.edges()+3), k.IntN(80)
		steps := a.steps(memory, limit)
		n, turn, e := search.Worst(a.graph(), a.distances, memory, limit)
		num, den, e2 := search.Mean(a.graph(), a.distances, memory, limit)
		count[steps != nil]++
		if steps == nil {
			if n != 0 || turn != 0 || e != api.ErrNone || num != 0 || den != 0 || e2 != api.ErrNone {
				t.Errorf("%v, %d, %d: Worst = %d, %d, %d, Mean = %d/%d, %d", a, memory, limit, n, turn, e, num, den, e2)
			}
			return
		}
		if n != slices.Max(steps) || turn != slices.Index(steps, n) || e != api.OK {
			t.Errorf("Worst of %v, %d, %d = %d, %d, %d, want the greatest of %v", a, memory, limit, n, turn, e, steps)
		}
		sum := 0
		for _, n := range steps {
			sum += n
		}
		if want := big.NewRat(int64(sum), int64(len(steps))); e2 != api.OK || int64(num) != want.Num().Int64() || int64(den) != want.Denom().Int64() {
			t.Errorf("Mean of %v, %d, %d = %d/%d, %d, want %v", a, memory, limit, num, den, e2, want)
		}
		if num < a.distances[0]*den || num > n*den {
			t.Errorf("Mean of %v = %d/%d is not between %d and %d", a, num, den, a.distances[0], n)
		}
	})
	if count[true] < 100 || count[false] < 100 {
		t.Errorf("so many finish with all turns: %v", count)
	}
}

// P6.3 and P6.11: with the memory of Needs all turns finish, with less some does not; if there is none, with no memory.
func TestNeedsByOracle(t *testing.T) {
	t.Parallel()
	more := 0
	trials(t, 400, func(t *testing.T, k maker, a atlas) {
		limit := k.IntN(100)
		want, wrong := 0, api.ErrNone
		// More than all edges is not remembered.
		for memory := 0; memory <= a.edges() && wrong != api.OK; memory++ {
			if a.steps(memory, limit) != nil {
				want, wrong = memory, api.OK
			}
		}
		n, e := search.Needs(a.graph(), a.distances, limit)
		if n != want || e != wrong {
			t.Errorf("Needs of %v within %d = %d, %d, want %d, %d", a, limit, n, e, want, wrong)
		}
		if e != api.OK {
			return
		}
		if _, _, e := search.Worst(a.graph(), a.distances, n, limit); e != api.OK {
			t.Errorf("%v does not finish with what it needs: %d", a, e)
		}
		if n == 0 {
			return
		}
		more++
		if _, _, e := search.Worst(a.graph(), a.distances, n-1, limit); e != api.ErrNone {
			t.Errorf("%v finishes with less than it needs: %d", a, e)
		}
	})
	if more < 50 {
		t.Errorf("only %d maps need a memory", more)
	}
}

// P6.4 and P6.12: Harder against the oracle; exchanged it is the opposite.
func TestHarderByOracle(t *testing.T) {
	t.Parallel()
	count := map[int]int{}
	trials(t, 3000, func(t *testing.T, k maker, a atlas) {
		b, memory, limit := k.atlas(), k.IntN(40), 200
		s, o := a.steps(memory, limit), b.steps(memory, limit)
		n, e := search.Harder(a.graph(), b.graph(), a.distances, b.distances, memory, limit)
		back, e2 := search.Harder(b.graph(), a.graph(), b.distances, a.distances, memory, limit)
		if e != errorUnless(s != nil && o != nil) || n != -back || e != e2 {
			t.Errorf("Harder of %v and %v = %d, %d, and exchanged %d, %d", a, b, n, e, back, e2)
		}
		if s == nil {
			return
		}
		if n, e := search.Harder(a.graph(), a.graph(), a.distances, a.distances, memory, limit); n != 0 || e != api.OK {
			t.Errorf("Harder of %v and itself = %d, %d", a, n, e)
		}
		if e == api.OK {
			count[n]++
			if want := mean(s).Cmp(mean(o)); n != want {
				t.Errorf("Harder of %v and %v = %d, want %d", a, b, n, want)
			}
		}
	})
	if count[-1] < 30 || count[0] < 30 || count[1] < 30 {
		t.Errorf("so many are harder: %v", count)
	}
}

func mean(list []int) *big.Rat {
	sum := 0
	for _, n := range list {
		sum += n
	}
	return big.NewRat(int64(sum), int64(len(list)))
}

// P6.5: a trail leads along edges, ends at the first finished position, and is not shorter than the distance.
func TestTrailLaw(t *testing.T) {
	t.Parallel()
	trials(t, 1000, func(t *testing.T, k maker, a atlas) {
		m, limit := k.mind(a), k.IntN(100)
		trail, done, e := search.Search(a.graph(), a.distances, m, limit)
		if e != api.OK || len(trail) > limit {
			t.Fatalf("Search of %v = %v, %d", a, trail, e)
		}
		at := 0
		for _, edge := range trail {
			if a.distances[at] == 0 || edge < 0 || edge >= len(a.to[at]) {
				t.Fatalf("%v leads from %d along %d in %v", trail, at, edge, a)
			}
			at = a.to[at][edge]
		}
		if done != (a.distances[at] == 0) || done && len(trail) < a.distances[0] {
			t.Errorf("%v ends at %d in %v, and done is %v", trail, at, a, done)
		}
		if !done && len(trail) < limit && len(a.to[at]) > 0 {
			t.Errorf("%v ends too early in %v", trail, a)
		}
	})
}

// P6.6 and P6.7: who remembers everything finishes, if nothing dead is reached, and goes no edge again before all edges of its position.
func TestRemembersEverything(t *testing.T) {
	t.Parallel()
	finish := 0
	trials(t, 1500, func(t *testing.T, k maker, a atlas) {
		m := api.Mind{Memory: a.edges() + k.IntN(5), Turn: k.IntN(100)}
		steps := a.edges() * len(a.to)
		trail, done, e := search.Search(a.graph(), a.distances, m, steps)
		if e != api.OK || !done && !a.reachesDead() {
			t.Errorf("Search of %v with %v = %v, %v, %d", a, m, trail, done, e)
		}
		if done && len(trail) > 5 {
			finish++
		}
		gone, at := map[link]bool{}, 0
		for _, edge := range trail {
			for other := range a.to[at] {
				if gone[link{at, edge}] && !gone[link{at, other}] {
					t.Errorf("%v goes %d at %d again before %d in %v", trail, edge, at, other, a)
				}
			}
			gone[link{at, edge}], at = true, a.to[at][edge]
		}
	})
	if finish < 50 {
		t.Errorf("only %d searches finish late", finish)
	}
}

// P6.8: chances are 0 before the distance, above 0 from it on, never less with more moves, and at most 1.
func TestChanceLaw(t *testing.T) {
	t.Parallel()
	trials(t, 500, func(t *testing.T, k maker, a atlas) {
		before := new(big.Rat)
		for moves := range 21 {
			num, den, e := search.Chance(a.graph(), a.distances, moves)
			if e == api.ErrMany {
				return
			}
			now := big.NewRat(int64(num), int64(den))
			may := a.distances[0] >= 0 && moves >= a.distances[0]
			if e != api.OK || (now.Sign() > 0) != may || now.Cmp(before) < 0 || num > den || den < 1 || now.Denom().Int64() != int64(den) {
				t.Errorf("Chance of %v with %d moves = %d/%d, %d, and with one less %v", a, moves, num, den, e, before)
			}
			before = now
		}
	})
}

// P6.10: widths are together as many as the positions that are not dead, and none is 0.
func TestWidthsLaw(t *testing.T) {
	t.Parallel()
	trials(t, 500, func(t *testing.T, k maker, a atlas) {
		list, e := search.Widths(a.graph(), a.distances)
		alive := 0
		for _, d := range a.distances {
			if d != -1 {
				alive++
			}
		}
		for _, n := range list {
			alive -= n
		}
		if e != api.OK || alive != 0 || slices.Contains(list, 0) || len(list) != slices.Max(a.distances)+1 {
			t.Errorf("Widths of %v = %v, %d", a, list, e)
		}
	})
}

// R4: arguments stay as they are, and results are new memory; results depend on the arguments alone.
func TestMemory(t *testing.T) {
	t.Parallel()
	trials(t, 100, func(t *testing.T, k maker, a atlas) {
		b := k.atlas()
		x, y, d, dy := a.graph(), b.graph(), slices.Clone(a.distances), slices.Clone(b.distances)
		n := given{k.IntN(20), k.IntN(100), k.IntN(60), k.IntN(9)}
		before, now := calls(x, d, y, dy, n), calls(x, d, y, dy, n)
		for _, results := range now {
			if list, is := results[0].([]int); is {
				list = append(list, 77)
				for i := range list {
					list[i] = 77
				}
			}
		}
		if after := calls(x, d, y, dy, n); !reflect.DeepEqual(before, after) {
			t.Errorf("%v, then %v", before, after)
		}
		if !reflect.DeepEqual(x, a.graph()) || !reflect.DeepEqual(y, b.graph()) || !slices.Equal(d, a.distances) || !slices.Equal(dy, b.distances) {
			t.Errorf("%v is now %v with %v, or %v is now %v with %v", a, x, d, b, y, dy)
		}
	})
}

// R4: to write over what Map returns leaves the game as it was, and what Map says of it.
func TestMemoryOfMap(t *testing.T) {
	g := climb(3, 2)
	x, d, _ := search.Map(g)
	want, wantD, _ := search.Map(climb(3, 2))
	for i := range x.Positions {
		for j := range x.Positions[i].State.Things {
			x.Positions[i].State.Things[j] = 77
		}
		for j := range x.Edges[i] {
			x.Edges[i][j] = api.Edge{To: 77}
		}
		d[i] = 77
	}
	if y, e, _ := search.Map(g); !reflect.DeepEqual(y, want) || !slices.Equal(e, wantD) || !reflect.DeepEqual(g, climb(3, 2)) {
		t.Errorf("%v, %v, and the game is %v", y, e, g)
	}
}

// R3: nil lists and empty lists are the same.
func TestEmptyLists(t *testing.T) {
	n := given{5, 1, 9, 3}
	thin := api.Graph{Positions: make([]api.Position, 2), Edges: [][]api.Edge{{{To: 1}}, nil}}
	full := api.Graph{Positions: make([]api.Position, 2), Edges: [][]api.Edge{{{To: 1}}, {}}}
	d := []int{1, 0}
	if a, b := calls(thin, d, full, d, n), calls(full, d, thin, d, n); !reflect.DeepEqual(a, b) || a[0][0] != api.OK {
		t.Errorf("%v, and %v", a, b)
	}
	a, b := calls(api.Graph{}, nil, api.Graph{}, nil, n), calls(api.Graph{Positions: []api.Position{}, Edges: [][]api.Edge{}}, []int{}, api.Graph{}, []int{}, n)
	if !reflect.DeepEqual(a, b) || a[0][0] != api.ErrModel {
		t.Errorf("%v, and %v", a, b)
	}
}

// P0.1: no function panics, whatever the arguments are, and the results depend on them alone; with an error they are zero (R2).
func TestAnyArguments(t *testing.T) {
	t.Parallel()
	numbers := []int{least, -3, -2, -1, 0, 1, 2, 3, 20, 100, 200, 300, 2000, most - 1, most}
	trials(t, 1000, func(t *testing.T, k maker, a atlas) {
		number := func() int { return numbers[k.IntN(len(numbers))] }
		x, y, d := a.graph(), k.atlas().graph(), slices.Clone(a.distances)
		for range k.IntN(3) {
			d[k.IntN(len(d))] = number()
		}
		switch i := k.IntN(len(x.Edges)); k.IntN(6) {
		case 0:
			x.Edges[i] = append(x.Edges[i], api.Edge{To: number()})
		case 1:
			x.Edges[i] = make([]api.Edge, 90+k.IntN(20))
		case 2:
			x.Positions = x.Positions[:i]
		case 3:
			x.Edges = x.Edges[:i]
		}
		n := given{number(), number(), number(), number()}
		results := calls(x, d, y, a.distances, n)
		if again := calls(x, d, y, a.distances, n); !reflect.DeepEqual(results, again) {
			t.Fatalf("%v, then %v", results, again)
		}
		for i, l := range results {
			if e := l[len(l)-1].(api.Errno); e != api.OK && !isError(l, e) {
				t.Errorf("%s: %v", called[i], l)
			}
		}
	})
	huge := api.Graph{Positions: make([]api.Position, 1<<20), Edges: make([][]api.Edge, 1<<20)}
	calls(huge, make([]int, 1<<20), huge, nil, given{most, least, most, least})
	full := make([][]int, 300)
	for i := range full {
		full[i] = append(make([]int, 99), (i+1)%300)
	}
	for _, a := range []atlas{newAtlas(full, 299), newAtlas(full, 0), newAtlas(full)} {
		calls(a.graph(), a.distances, a.graph(), a.distances, given{200, 99, 2000, 7})
	}
	if x, d, e := search.Map(api.Game{Notes: make([]api.Note, 1<<20), Tries: most}); e == api.OK || len(x.Positions)+len(d) > 0 {
		t.Errorf("Map = %v, %v, %d", x, d, e)
	}
}
