package puzzles_test

import (
	"slices"
	"testing"

	"padlock/api"
	"padlock/puzzles"
)

// must returns what a call returns that has no error.
func must[T any](x T, e api.Errno) T {
	if e != api.OK {
		panic(e)
	}
	return x
}

// P3.8: ciphers can be taken back, and are cracked.
func TestCipherLaws(t *testing.T) {
	trials(1000, func(k maker) {
		text, n, m := k.text(k.IntN(201), someBytes), k.IntN(101)-50, k.IntN(101)-50
		once := must(puzzles.Shift(text, n))
		if back := must(puzzles.Shift(once, -n)); back != text {
			t.Errorf("Shift of %q by %d and back is %q", text, n, back)
		}
		if twice, sum := must(puzzles.Shift(once, m)), must(puzzles.Shift(text, n+m)); twice != sum {
			t.Errorf("Shift of %q by %d and by %d is %q, not %q", text, n, m, twice, sum)
		}
		key := k.text(1+k.IntN(12), alphabet)
		if back := must(puzzles.Mix(must(puzzles.Mix(text, key, false)), key, true)); back != text {
			t.Errorf("Mix of %q with %q and back is %q", text, key, back)
		}
		from := k.IntN(len(text) + 1)
		part := text[from : from+k.IntN(len(text)-from+1)]
		if n := k.IntN(26); !slices.Contains(must(puzzles.Crack(must(puzzles.Shift(text, n)), part)), (26-n)%26) {
			t.Errorf("Crack of %q, shifted by %d, with %q", text, n, part)
		}
	})
}

// P3.9: no weighing uses fewer weights.
func TestBalanceLaws(t *testing.T) {
	used := func(sides []int) (n int) {
		for _, side := range sides {
			n += side * side
		}
		return n
	}
	trials(300, func(k maker) {
		weights, load := k.list(k.IntN(6), 1, 1+k.IntN(20)), k.IntN(30)
		sides, e := puzzles.Weigh(weights, load)
		if n := must(puzzles.Weighings(weights, load)); (e == api.OK) != (n >= 1) {
			t.Errorf("Weigh(%v, %d): %d, and there are %d", weights, load, e, n)
		}
		if e == api.OK && must(puzzles.Tips(weights, sides, load)) != 0 {
			t.Errorf("Weigh(%v, %d) = %v tips", weights, load, sides)
		}
		for _, other := range counted(len(weights), 3) {
			for i := range other {
				other[i]--
			}
			if must(puzzles.Tips(weights, other, load)) == 0 && (e != api.OK || used(other) < used(sides)) {
				t.Errorf("Weigh(%v, %d) = %v, %d, and there is %v", weights, load, sides, e, other)
			}
		}
		if sides, e := puzzles.Weigh(weights, 0); !slices.Equal(sides, make([]int, len(weights))) || e != api.OK {
			t.Errorf("Weigh(%v, 0) = %v, %d", weights, sides, e)
		}
	})
}

// P3.10: the turns solve the pipes, and none with a lesser sum do.
func TestPipeLaws(t *testing.T) {
	trials(300, func(k maker) {
		p := k.pipes(4)
		turns, e := puzzles.Plumb(p)
		count := 0
		for _, other := range counted(len(p.Pieces), 4) {
			wet, leaks, _ := puzzles.Flows(p, other)
			if leaks > 0 || !slices.Contains(wet, p.To) {
				if slices.Equal(other, turns) && e == api.OK {
					t.Errorf("Plumb(%v) = %v solves nothing", p, turns)
				}
				continue
			}
			if count++; e != api.OK || total(other) < total(turns) {
				t.Errorf("Plumb(%v) = %v, %d, and there is %v", p, turns, e, other)
			}
		}
		if n := must(puzzles.Plumbings(p)); n != count {
			t.Errorf("Plumbings(%v) = %d, want %d", p, n, count)
		}
	})
}

// P3.11: the moves lead through, and no fewer do; walls and traps hold the ball.
func TestMazeLaws(t *testing.T) {
	trials(300, func(k maker) {
		m := k.square()
		moves, e := puzzles.Escape(m)
		if e == api.OK && must(puzzles.Roll(m, moves)) != m.To {
			t.Errorf("Escape(%v) = %v", m, moves)
		}
		if e == api.OK && len(moves) > 0 && must(puzzles.Roll(m, moves[:len(moves)-1])) == m.To {
			t.Errorf("Escape(%v) = %v has one move too many", m, moves)
		}
		for length := range 5 {
			for _, other := range counted(length, 4) {
				if must(puzzles.Roll(m, other)) == m.To && (e != api.OK || length < len(moves)) {
					t.Errorf("Escape(%v) = %v, %d, and there is %v", m, moves, e, other)
				}
			}
		}
		traps := must(puzzles.Traps(m))
		path, caught := k.list(200, 0, 3), false
		for i := range path {
			cell := must(puzzles.Roll(m, path[:i]))
			caught = caught || slices.Contains(traps, cell)
			if m.Walls[cell] || caught && cell == m.To {
				t.Errorf("the ball of %v lies in %d behind %v", m, cell, path[:i])
			}
		}
	})
}

// P3.12: a sentence or its opposite holds; the hangings are such of all portraits.
func TestPortraitLaws(t *testing.T) {
	trials(500, func(k maker) {
		n := 1 + k.IntN(6)
		l := k.sentences(n, k.IntN(4))
		s := k.sentence(n)
		opposite := s
		opposite.Not = !s.Not
		with, without := must(puzzles.Hangings(n, append(slices.Clone(l), s))), must(puzzles.Hangings(n, append(slices.Clone(l), opposite)))
		if all := must(puzzles.Hangings(n, l)); all != with+without {
			t.Errorf("%d hangings of %v, %d with %v, %d with the opposite", all, l, with, s, without)
		}
		list := must(puzzles.Hang(n, l, 64))
		for i, hanging := range list {
			places := make([]int, n)
			for place, portrait := range hanging {
				places[portrait] += 100 + place
			}
			if len(hanging) != n || slices.Min(places) < 100 || i > 0 && slices.Compare(list[i-1], hanging) >= 0 {
				t.Errorf("Hang(%d, %v) has %v", n, l, hanging)
			}
			for _, s := range l {
				if isTrue(s, places) == s.Not {
					t.Errorf("Hang(%d, %v) has %v, in which %v does not hold", n, l, hanging, s)
				}
			}
		}
	})
}

// P3.13: Opens is what Press comes to, key by key; more keys in front put nothing off.
func TestMelodyLaws(t *testing.T) {
	trials(2000, func(k maker) {
		melody, keys := k.list(1+k.IntN(5), 0, 1), k.list(k.IntN(30), 0, 1)
		opens := must(puzzles.Opens(melody, keys))
		heard, at := 0, -1
		for i, key := range keys {
			if heard = must(puzzles.Press(melody, heard, key)); heard == len(melody) {
				at = i + 1
				break
			}
			if heard != hears(melody, keys[:i+1]) {
				t.Errorf("behind %v of %v, %d notes have been heard", keys[:i+1], melody, heard)
			}
		}
		if opens != at {
			t.Errorf("Opens(%v, %v) = %d, Press comes to %d", melody, keys, opens, at)
		}
		front := k.list(k.IntN(10), 0, 2)
		if later := must(puzzles.Opens(melody, append(front, keys...))); opens >= 0 && (later < 0 || later > len(front)+opens) {
			t.Errorf("Opens(%v, %v) = %d, and %d behind %v", melody, keys, opens, later, front)
		}
	})
}

// P3.14: a polynomial goes on.
func TestPolynomials(t *testing.T) {
	trials(2000, func(k maker) {
		degree := k.IntN(4)
		terms := degree + 2 + k.IntN(5)
		factors := k.list(degree+1, -5, 5)
		at := func(x int) (y int) {
			for _, f := range factors {
				y = y*x + f
			}
			return y
		}
		from := k.IntN(7) - 3
		l := make([]int, terms)
		for i := range l {
			l[i] = at(from + i)
		}
		if slices.Max(l) > api.MaxMass || slices.Min(l) < -api.MaxMass {
			return
		}
		if next, d, e := puzzles.Next(l); next != at(from+terms) || d > degree || e != api.OK {
			t.Errorf("Next(%v) = %d, %d, %d, want %d and at most %d", l, next, d, e, at(from+terms), degree)
		}
	})
}
