package hints_test

import (
	"slices"
	"testing"

	"padlock/api"
	"padlock/hints"
)

// P7.1 and P7.4: worlds and what is known by them against the oracle.
func TestWorldsByOracle(t *testing.T) {
	t.Parallel()
	tied, some := 0, 0
	trials(t, 1500, func(t *testing.T, k maker, r api.Riddle, _ []api.Aid) {
		all := worlds(r)
		if n, e := hints.Worlds(r); n != len(all) || e != api.OK {
			t.Errorf("Worlds of %v = %d, %d, want %d", r, n, e, len(all))
		}
		for lock, want := range possible(r) {
			if l, e := hints.Possible(r, lock); !sameLists(l, want) || e != api.OK {
				t.Errorf("Possible of %v, %d = %v, %d, want %v", r, lock, l, e, want)
			}
			if l, e := hints.Secret(r, lock); !slices.Equal(l, secret(r, lock)) || e != api.OK {
				t.Errorf("Secret of %v, %d = %v, %d", r, lock, l, e)
			}
			if len(want) < len(fitting(r, lock)) {
				tied++
			}
		}
		if l, e := hints.Sure(r); !slices.Equal(l, sure(r)) || e != api.OK {
			t.Errorf("Sure of %v = %v, %d", r, l, e)
		} else if len(l) > 0 && len(l) < len(r.Locks) {
			some++
		}
	})
	if tied < 100 || some < 100 {
		t.Errorf("ties matter for %d locks, and %d riddles have both locks that are sure and others", tied, some)
	}
}

// P7.2: aids against the oracle.
func TestAidsByOracle(t *testing.T) {
	t.Parallel()
	spoil, none := 0, 0
	trials(t, 700, func(t *testing.T, k maker, r api.Riddle, pool []api.Aid) {
		for _, a := range pool {
			if n, e := hints.Leaves(r, a); n != left(r, a) || e != api.OK {
				t.Errorf("Leaves of %v and %v = %d, %d, want %d", r, a, n, e, left(r, a))
			}
			want := changed(r, a, false)
			if l, e := hints.Spoils(r, a); !slices.Equal(l, want) || e != api.OK {
				t.Errorf("Spoils of %v and %v = %v, %d, want %v", r, a, l, e, want)
			}
			if len(want) > 0 {
				spoil++
			} else if len(r.Ties) > 0 && len(changed(r, a, true)) > 0 {
				none++
			}
		}
		for lock := range r.Locks {
			if l, e := hints.Allowed(r, pool, lock); !slices.Equal(l, allowed(r, pool, lock)) || e != api.OK {
				t.Errorf("Allowed of %v, %v, %d = %v, %d", r, pool, lock, l, e)
			}
		}
	})
	if spoil < 100 || none < 100 {
		t.Errorf("%d aids spoil, %d help beside ties and do not", spoil, none)
	}
}

// P7.3: Gentle, Strong and Ladder against the oracle.
func TestLaddersByOracle(t *testing.T) {
	t.Parallel()
	different, long := 0, 0
	trials(t, 400, func(t *testing.T, k maker, r api.Riddle, pool []api.Aid) {
		pool = append(pool, k.pool(r)...)
		for lock := range r.Locks {
			gentle, e := hints.Gentle(r, pool, lock)
			if n, wrong := first(inOrder(r, pool, lock, 1)); gentle != n || e != wrong {
				t.Errorf("Gentle of %v, %v, %d = %d, %d, want %d, %d", r, pool, lock, gentle, e, n, wrong)
			}
			strong, e := hints.Strong(r, pool, lock)
			if n, wrong := first(inOrder(r, pool, lock, -1)); strong != n || e != wrong {
				t.Errorf("Strong of %v, %v, %d = %d, %d, want %d, %d", r, pool, lock, strong, e, n, wrong)
			}
			if gentle != strong {
				different++
			}
			want := ladder(r, pool, lock)
			if l, e := hints.Ladder(r, pool, lock); !slices.Equal(l, want) || e != api.OK {
				t.Errorf("Ladder of %v, %v, %d = %v, %d, want %v", r, pool, lock, l, e, want)
			}
			if len(want) > 2 {
				long++
			}
		}
	})
	if different < 100 || long < 50 {
		t.Errorf("%d are different, %d long", different, long)
	}
}

// P7.4: Hides against the oracle, of aids about all locks.
func TestHidesByOracle(t *testing.T) {
	t.Parallel()
	count := map[bool]int{}
	trials(t, 700, func(t *testing.T, k maker, r api.Riddle, pool []api.Aid) {
		for range 3 {
			list := k.Perm(len(pool))
			list = list[:k.IntN(len(list)+1)]
			want := hides(r, pool, list)
			if is, e := hints.Hides(r, pool, list); is != want || e != api.OK {
				t.Errorf("Hides of %v, %v, %v = %v, %d, want %v", r, pool, list, is, e, want)
			}
			if len(list) > 1 {
				count[want]++
			}
		}
	})
	if count[true] < 50 || count[false] < 50 {
		t.Errorf("so many hide: %v", count)
	}
}

// all returns what is possible for all locks.
func all(t *testing.T, r api.Riddle) [][][]int {
	t.Helper()
	list := make([][][]int, len(r.Locks))
	for lock := range list {
		var e api.Errno
		if list[lock], e = hints.Possible(r, lock); e != api.OK {
			t.Fatalf("Possible of %v, %d: %d", r, lock, e)
		}
	}
	return list
}

// tell returns the riddle behind an aid.
func tell(t *testing.T, r api.Riddle, a api.Aid) api.Riddle {
	t.Helper()
	r, e := hints.Tell(r, a)
	if e != api.OK {
		t.Fatalf("Tell of %v: %d", a, e)
	}
	return r
}

// isWithin reports whether all codes of a list are in another one.
func isWithin(a, b [][]int) bool {
	return !slices.ContainsFunc(a, func(code []int) bool { return !has(b, code) })
}

func has(list [][]int, code []int) bool {
	return slices.ContainsFunc(list, func(other []int) bool { return slices.Equal(code, other) })
}

// P7.5 and P7.10: whatever is told, or tied, the code stays possible, no lock has more possible codes than before, and what is sure stays sure.
func TestTruthLaw(t *testing.T) {
	t.Parallel()
	trials(t, 500, func(t *testing.T, k maker, r api.Riddle, pool []api.Aid) {
		before := all(t, r)
		for _, a := range pool {
			wasSure, _ := hints.Sure(r)
			if r = tell(t, r, a); k.IntN(3) == 0 {
				if tie, is := k.tie(r); is && len(r.Ties) < 10 {
					r.Ties = append(r.Ties, tie)
				}
			}
			now := all(t, r)
			for lock, code := range r.Codes {
				if !has(now[lock], code) || !isWithin(now[lock], before[lock]) {
					t.Errorf("behind %v %v are possible for %d, and before %v", a, now[lock], lock, before[lock])
				}
			}
			isSure, _ := hints.Sure(r)
			for _, lock := range wasSure {
				if !slices.Contains(isSure, lock) {
					t.Errorf("behind %v %d is not sure any more", a, lock)
				}
			}
			before = now
		}
	})
}

// P7.6 to P7.8: a ladder helps with each rung, leaves all other locks as they are, and nothing behind it; Gentle leaves no less than Strong.
func TestLadderLaw(t *testing.T) {
	t.Parallel()
	rungs := 0
	trials(t, 500, func(t *testing.T, k maker, r api.Riddle, pool []api.Aid) {
		lock := k.IntN(len(r.Locks))
		list, e := hints.Ladder(r, pool, lock)
		if is, e2 := hints.Hides(r, pool, list); e != api.OK || !is || e2 != api.OK {
			t.Fatalf("Hides of the ladder %v, %d = %v, %d", list, e, is, e2)
		}
		before := all(t, r)
		if n, e := hints.Gentle(r, pool, lock); e == api.OK {
			strong, _ := hints.Strong(r, pool, lock)
			most, _ := hints.Leaves(r, pool[n])
			fewest, e := hints.Leaves(r, pool[strong])
			if most < fewest || fewest < 1 || most >= len(before[lock]) || e != api.OK {
				t.Errorf("Gentle leaves %d of %d, Strong %d", most, len(before[lock]), fewest)
			}
		}
		for _, aid := range list {
			r = tell(t, r, pool[aid])
			now := all(t, r)
			for other := range now {
				if other != lock && !sameLists(now[other], before[other]) || other == lock && len(now[lock]) >= len(before[lock]) {
					t.Errorf("behind %v %v are possible for %d, and before %v", pool[aid], now[other], other, before[other])
				}
			}
			before = now
			rungs++
		}
		if l, e := hints.Allowed(r, pool, lock); len(l) > 0 || e != api.OK {
			t.Errorf("behind the ladder %v are allowed, %d", l, e)
		}
	})
	if rungs < 100 {
		t.Errorf("only %d rungs", rungs)
	}
}

// P7.9: without ties no aid spoils a lock, and worlds are all lists of possible codes.
func TestNoTiesLaw(t *testing.T) {
	t.Parallel()
	trials(t, 500, func(t *testing.T, k maker, r api.Riddle, pool []api.Aid) {
		r.Ties = nil
		for _, a := range pool {
			if l, e := hints.Spoils(r, a); len(l) > 0 || e != api.OK {
				t.Errorf("Spoils of %v = %v, %d", a, l, e)
			}
		}
		product := 1
		for _, l := range all(t, r) {
			product *= len(l)
		}
		if n, e := hints.Worlds(r); n != product || e != api.OK {
			t.Errorf("Worlds of %v = %d, %d, want %d", r, n, e, product)
		}
	})
}

// P7.11: a lock is sure exactly if none of its wheels is secret.
func TestSureLaw(t *testing.T) {
	t.Parallel()
	trials(t, 500, func(t *testing.T, k maker, r api.Riddle, _ []api.Aid) {
		list, e := hints.Sure(r)
		for lock := range r.Locks {
			wheels, e2 := hints.Secret(r, lock)
			if e != api.OK || e2 != api.OK || slices.Contains(list, lock) != (len(wheels) == 0) {
				t.Errorf("%v are sure, but Secret of %d is %v", list, lock, wheels)
			}
		}
	})
}
