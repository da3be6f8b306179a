package play_test

import (
	"reflect"
	"slices"
	"testing"

	"padlock/api"
	"padlock/codes"
	"padlock/play"
	"padlock/room"
)

// P4.2: the beginning against the oracle.
func TestBeginByOracle(t *testing.T) {
	trials(t, 300, func(t *testing.T, _ maker, g api.Game) {
		p, e := play.Begin(g)
		s, want := room.Begin(g.Room)
		if e != want || e == api.OK && !samePosition(p, stand(g, s, nil)) || e != api.OK && !reflect.DeepEqual(p, api.Position{}) {
			t.Errorf("Begin of %+v = %v, %d", g, p, e)
		}
	})
}

// P4.3, P4.4, P4.8 and P4.14: moves against the oracle, from any positions on: Can has just those for which Step returns OK.
func TestMovesByOracle(t *testing.T) {
	locked := 0
	trials(t, 300, func(t *testing.T, k maker, g api.Game) {
		for range 4 {
			p := k.position(g)
			var can []api.Move
			for _, m := range everyMove(g.Room) {
				want, possible := behind(g, p, m)
				end, e := play.Step(g, p, m)
				reads, e2 := play.Reads(g, p, m)
				if e != e2 || possible && (e != api.OK || !samePosition(end, want)) || !possible && (e != api.ErrMove || !reflect.DeepEqual(end, api.Position{}) || reads != nil) {
					t.Fatalf("Step of %v from %v in %+v = %v, %d, want %v, %v", m, p, g, end, e, want, possible)
				}
				if !possible {
					if _, e := room.Step(g.Room, p.State, m); e == api.OK {
						locked++
					}
					continue
				}
				can = append(can, m)
				for i := range g.Notes {
					if slices.Contains(reads, i) != (want.Read[i] && !p.Read[i]) || !slices.IsSorted(reads) {
						t.Errorf("Reads of %v from %v in %+v = %v", m, p, g, reads)
					}
				}
			}
			if l, e := play.Can(g, p); e != api.OK || !slices.Equal(l, can) {
				t.Errorf("Can of %v in %+v = %v, %d, want %v", p, g, l, e, can)
			}
		}
	})
	if locked < 100 {
		t.Errorf("only %d moves fail because of a lock", locked)
	}
}

// P4.5 and P4.16: a run can be cut anywhere, and is what its steps are one by one; in each position all that can be read has been read.
func TestRunLaw(t *testing.T) {
	plays(t, 150, func(t *testing.T, g api.Game, p, before api.Position, moves []api.Move) {
		first := begin(t, g)
		for i := range len(moves) + 1 {
			middle, at, e := play.Run(g, first, moves[:i])
			if at != 0 || e != api.OK {
				t.Fatalf("Run of %v: %d, %d", moves[:i], at, e)
			}
			if end, at, e := play.Run(g, middle, moves[i:]); at != 0 || e != api.OK || !samePosition(end, p) {
				t.Errorf("Run of %v = %v, %d, %d, want %v", moves[i:], end, at, e, p)
			}
		}
		for _, note := range readable(g, p.State) {
			if !p.Read[note] {
				t.Errorf("the note %d has not been read in %v", note, p)
			}
		}
		for _, m := range everyMove(g.Room) {
			if _, possible := behind(g, p, m); possible {
				continue
			}
			if end, at, e := play.Run(g, first, append(slices.Clone(moves), m)); at != len(moves) || e != api.ErrMove || !reflect.DeepEqual(end, api.Position{}) {
				t.Errorf("Run of %v and %v = %v, %d, %d", moves, m, end, at, e)
			}
		}
	})
}

// P4.6, P4.7, P4.9 and P4.10: what is known of locks, against the oracle.
func TestLocksByOracle(t *testing.T) {
	twins := 0
	trials(t, 300, func(t *testing.T, k maker, g api.Game) {
		p := k.position(g)
		var open []bool
		var unsure []int
		for lock := range g.Locks {
			clues := told(g, lock, p)
			if l, e := play.Clues(g, p, lock); e != api.OK || !slices.Equal(l, clues) {
				t.Errorf("Clues of %d = %v, %d, want %v", lock, l, e, clues)
			}
			if n, e := play.Readings(g, p, lock); e != api.OK || n != len(fitting(g, lock, clues)) {
				t.Errorf("Readings of %d in %v of %+v = %d, %d", lock, p, g, n, e)
			}
			open = append(open, isOpen(g, p, lock))
			needed := told(g, lock)
			all := len(fitting(g, lock, needed))
			if all > 1 {
				unsure = append(unsure, lock)
			}
			for _, note := range told(g, lock) {
				if rest := slices.DeleteFunc(slices.Clone(needed), func(n int) bool { return n == note }); len(fitting(g, lock, rest)) == all {
					needed = rest
				}
			}
			if l, e := play.Needed(g, lock); e != api.OK || !slices.Equal(l, needed) {
				t.Errorf("Needed of %d in %+v = %v, %d, want %v", lock, g, l, e, needed)
			}
		}
		if l, e := play.Opens(g, p); e != api.OK || !slices.Equal(l, open) {
			t.Errorf("Opens of %v in %+v = %v, %d, want %v", p, g, l, e, open)
		}
		if l, e := play.Twins(g); e != api.OK || !slices.Equal(l, unsure) {
			t.Errorf("Twins of %+v = %v, %d, want %v", g, l, e, unsure)
		}
		twins += len(unsure)
	})
	if twins < 100 {
		t.Errorf("only %d locks with more than one reading", twins)
	}
}

// P4.14: what has been read stays read, a lock that is open stays open, and Readings never grows.
func TestKnowledgeLaw(t *testing.T) {
	learned := 0
	plays(t, 200, func(t *testing.T, g api.Game, p, before api.Position, _ []api.Move) {
		was, _ := play.Opens(g, before)
		is, _ := play.Opens(g, p)
		for i, read := range before.Read {
			if read && !p.Read[i] {
				t.Errorf("the note %d has been forgotten", i)
			}
		}
		for lock := range g.Locks {
			a, _ := play.Readings(g, before, lock)
			b, e := play.Readings(g, p, lock)
			if b > a || e != api.OK || was[lock] && !is[lock] || is[lock] != (b <= g.Tries) {
				t.Errorf("the lock %d has %d readings, and had %d; open %v, and was %v", lock, b, a, is[lock], was[lock])
			}
			learned += a - b
		}
	})
	if learned == 0 {
		t.Error("nobody has learned anything")
	}
}

// P4.15: the code is always a reading; needed notes say what all say, and none of them could be missing.
func TestNeededLaw(t *testing.T) {
	idle := 0
	trials(t, 300, func(t *testing.T, k maker, g api.Game) {
		p := k.position(g)
		for lock, l := range g.Locks {
			clues := func(notes []int) (list []api.Clue) {
				for _, note := range notes {
					list = append(list, g.Notes[note].Clue)
				}
				return list
			}
			read, _ := play.Clues(g, p, lock)
			if _, is, e := codes.Fits(l, clues(read), g.Codes[lock]); !is || e != api.OK {
				t.Errorf("the code of %d is no reading of %v in %+v", lock, read, g)
			}
			needed, e := play.Needed(g, lock)
			all, _ := codes.Count(l, clues(told(g, lock)))
			if n, _ := codes.Count(l, clues(needed)); e != api.OK || n != all {
				t.Errorf("Needed of %d in %+v = %v, %d: %d readings, all have %d", lock, g, needed, e, n, all)
			}
			for i := range needed {
				if n, _ := codes.Count(l, clues(slices.Delete(slices.Clone(needed), i, i+1))); n <= all {
					t.Errorf("Needed of %d in %+v = %v: %d readings without the %d. note", lock, g, needed, n, i)
				}
			}
			idle += len(told(g, lock)) - len(needed)
		}
	})
	if idle == 0 {
		t.Error("all notes are needed")
	}
}

// P4.16: who takes something and drops it again reads nothing.
func TestNothingNewLaw(t *testing.T) {
	n := 0
	plays(t, 300, func(t *testing.T, g api.Game, p, _ api.Position, _ []api.Move) {
		can, _ := play.Can(g, p)
		for _, m := range can {
			if m.Kind != api.Take {
				continue
			}
			n++
			q, _ := play.Step(g, p, m)
			m.Kind = api.Drop
			if l, e := play.Reads(g, q, m); e != api.OK || len(l) != 0 {
				t.Errorf("Reads of %v = %v, %d", m, l, e)
			}
			if r, e := play.Step(g, q, m); e != api.OK || !samePosition(r, p) {
				t.Errorf("%v is now %v, %d", p, r, e)
			}
		}
	})
	if n < 100 {
		t.Errorf("only %d props were taken", n)
	}
}

// spoil writes over all numbers and bools of lists.
func spoil(v reflect.Value) {
	switch v.Kind() {
	case reflect.Interface:
		spoil(v.Elem())
	case reflect.Struct:
		for i := range v.NumField() {
			spoil(v.Field(i))
		}
	case reflect.Slice:
		for i := range v.Len() {
			spoil(v.Index(i))
		}
		if v.Cap() > v.Len() && !v.IsNil() {
			spoil(v.Slice(0, v.Cap()).Index(v.Len()))
		}
	case reflect.Int:
		if v.CanSet() {
			v.SetInt(77)
		}
	case reflect.Bool:
		if v.CanSet() {
			v.SetBool(!v.Bool())
		}
	}
}

// R4: results are new memory, and arguments stay as they are.
func TestMemory(t *testing.T) {
	trials(t, 150, func(t *testing.T, k maker, g api.Game) {
		p := k.position(g)
		can, _ := play.Can(g, p)
		m := append(can, api.Move{})[k.IntN(len(can)+1)]
		lock := k.IntN(len(g.Locks) + 1)
		for _, moves := range [][]api.Move{nil, {m}} {
			run := func() [][]any { return calls(g, p, m, moves, lock, fullText) }
			text, _ := play.Format(g)
			before, other := run(), run()
			for _, results := range other {
				for _, x := range results {
					spoil(reflect.ValueOf(&x).Elem())
				}
			}
			if after := run(); !reflect.DeepEqual(before, after) {
				t.Errorf("%v, then %v", before, after)
			}
			if now, _ := play.Format(g); now != text {
				t.Errorf("the game is now %q, and was %q", now, text)
			}
		}
	})
}

// P0.1: no function panics, whatever the arguments are, and the results depend on them alone; with an error they are zero (R2).
func TestAnyArguments(t *testing.T) {
	numbers := []int{least, -3, -2, -1, 0, 1, 2, 3, 9, most}
	texts := []string{"", "\n", "goal", "goal\n", "place p\nplayers 1\ngoal\nnote", roomText + "codelock\n", roomText + "note a at hall lock 0 \n", roomText + "codelock 1 1 1\nnote a at hall lock 0 at 0 0\n", "\x00\xff", fullText}
	trials(t, 60, func(t *testing.T, k maker, g api.Game) {
		eachChange(reflect.ValueOf(g), func(path string, change func(reflect.Value)) {
			number := func() int { return numbers[k.IntN(len(numbers))] }
			p := k.position(g)
			m := api.Move{Player: k.IntN(3) - 1, Kind: k.IntN(6), Number: k.IntN(4) - 1}
			eachChange(reflect.ValueOf(p), func(_ string, change func(reflect.Value)) {
				if k.IntN(60) == 0 {
					change(reflect.ValueOf(&p).Elem())
				}
			})
			if k.IntN(4) == 0 {
				m = api.Move{Player: number(), Kind: number(), Number: number()}
			}
			odd := clone(g)
			change(reflect.ValueOf(&odd).Elem())
			lock, text := number(), texts[k.IntN(len(texts))]
			a := calls(odd, p, m, []api.Move{m, m}, lock, text)
			if b := calls(odd, p, m, []api.Move{m, m}, lock, text); !reflect.DeepEqual(a, b) {
				t.Fatalf("%s of %+v, %v, %v: %v, then %v", path, odd, p, m, a, b)
			}
			for i, results := range a[:withGame] {
				if e := results[len(results)-1].(api.Errno); e != api.OK && called[i] != "Run" && !isError(results, e) {
					t.Errorf("%s of %+v, %s: %v", path, odd, called[i], results)
				}
			}
		})
	})
	huge := api.Game{Room: api.Room{Places: []string{"p"}, Players: 1}, Locks: make([]api.CodeLock, 1<<20), Codes: make([][]int, 1<<20), Notes: make([]api.Note, 1<<20), Tries: most}
	calls(huge, api.Position{Read: make([]bool, 1<<20)}, api.Move{}, make([]api.Move, 1<<20), most, string(make([]byte, 1<<20)))
}

// clone returns a game in other memory.
func clone(g api.Game) api.Game {
	var deep func(v reflect.Value)
	deep = func(v reflect.Value) {
		switch v.Kind() {
		case reflect.Struct:
			for i := range v.NumField() {
				deep(v.Field(i))
			}
		case reflect.Slice:
			if !v.IsNil() {
				list := reflect.MakeSlice(v.Type(), v.Len(), v.Len())
				reflect.Copy(list, v)
				v.Set(list)
			}
			for i := range v.Len() {
				deep(v.Index(i))
			}
		}
	}
	deep(reflect.ValueOf(&g).Elem())
	return g
}
