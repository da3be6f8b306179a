package puzzles_test

import (
	"math/rand/v2"
	"slices"
	"strings"
	"testing"

	"padlock/api"
	"padlock/puzzles"
)

// This file says once more, in the plainest way, what the chapter says, so that the tests have something to compare with.

const alphabet = "abcdefghijklmnopqrstuvwxyz"

// shifted looks letters up in alphabets that stand one behind the other.
func shifted(text string, n int) string {
	row := strings.Repeat(alphabet, 9)
	list := []byte(text)
	for i, b := range list {
		if k := strings.IndexByte(alphabet, b); k >= 0 {
			list[i] = row[26*4+k+n]
		}
	}
	return string(list)
}

// mixed shifts each letter by itself.
func mixed(text, key string, back bool) string {
	var out strings.Builder
	keys := strings.Repeat(key, 200)
	for _, b := range []byte(text) {
		if !strings.Contains(alphabet, string(rune(b))) {
			out.WriteByte(b)
			continue
		}
		n := strings.IndexByte(alphabet, keys[0])
		keys = keys[1:]
		if back {
			n = -n
		}
		out.WriteString(shifted(string(rune(b)), n))
	}
	return out.String()
}

// choose is how many sets of k there are among n.
func choose(n, k int) int {
	c := 1
	for i := range k {
		c = c * (n - i) / (i + 1)
	}
	return c
}

// difference is the one of a degree that begins at an element.
func difference(l []int, degree, at int) int {
	n := 0
	for j := range degree + 1 {
		n += (1 - j%2*2) * choose(degree, j) * l[at+degree-j]
	}
	return n
}

// continued looks for the degree, and for the element with which the difference of the next degree is 0.
func continued(l []int) (next, degree int, e api.Errno) {
	for degree := range len(l) - 1 {
		equal := true
		for at := range len(l) - degree {
			equal = equal && difference(l, degree, at) == difference(l, degree, 0)
		}
		if equal {
			longer := append(slices.Clone(l), 0)
			return -difference(longer, degree+1, len(l)-degree-1), degree, api.OK
		}
	}
	return 0, 0, api.ErrNone
}

// counted returns all lists of a length with numbers from 0 to base-1, as a number counts up in this base.
func counted(length, base int) [][]int {
	total := 1
	for range length {
		total *= base
	}
	all := make([][]int, total)
	for n := range all {
		all[n] = make([]int, length)
		for i, rest := length-1, n; i >= 0; i, rest = i-1, rest/base {
			all[n][i] = rest % base
		}
	}
	return all
}

// balanced returns the weighings with which the sums of both sides are equal, in order.
func balanced(weights []int, load int) (all [][]int) {
	for _, sides := range counted(len(weights), 3) {
		sums := [3]int{load, 0, 0}
		for i := range sides {
			sums[sides[i]] += weights[i]
			sides[i]--
		}
		if sums[0] == sums[2] {
			all = append(all, sides)
		}
	}
	return all
}

// best returns the list with the least cost, of several the first in their order.
func best(all [][]int, cost func([]int) int) ([]int, api.Errno) {
	if len(all) == 0 {
		return nil, api.ErrNone
	}
	return slices.MinFunc(all, func(a, b []int) int {
		if n := cost(a) - cost(b); n != 0 {
			return n
		}
		return slices.Compare(a, b)
	}), api.OK
}

// steps are the sides up, right, down and left as rows and columns.
var steps = [4][2]int{{-1, 0}, {0, 1}, {1, 0}, {0, -1}}

// toSide is the cell at a side of another one, or -1.
func toSide(wide, high, cell, side int) int {
	r, c := cell/wide+steps[side][0], cell%wide+steps[side][1]
	if r < 0 || c < 0 || r == high || c == wide {
		return -1
	}
	return r*wide + c
}

// openings writes the sides to which a turned piece is open, in the order of the quarters.
func openings(piece, quarters int) string {
	text := ""
	for side, bit := range []int{1, 2, 4, 8} {
		if piece&bit != 0 {
			text += "URDL"[(side+quarters)%4 : (side+quarters)%4+1]
		}
	}
	return text
}

// flows lets water spread until nothing changes, and then looks for leaks.
func flows(p api.Pipes, turns []int) (wet []int, leaks int) {
	open := func(cell, side int) bool {
		return cell >= 0 && strings.Contains(openings(p.Pieces[cell], turns[cell]), "URDL"[side:side+1])
	}
	has := map[int]bool{p.From: true}
	for range p.Pieces {
		for cell := range p.Pieces {
			for side := range 4 {
				if next := toSide(p.Wide, p.High, cell, side); has[cell] && open(cell, side) && open(next, (side+2)%4) {
					has[next] = true
				}
			}
		}
	}
	for cell := range p.Pieces {
		if !has[cell] {
			continue
		}
		wet = append(wet, cell)
		for side := range 4 {
			if open(cell, side) && !open(toSide(p.Wide, p.High, cell, side), (side+2)%4) {
				leaks++
			}
		}
	}
	return wet, leaks
}

// plumbed returns all turns that solve pipes.
func plumbed(p api.Pipes) (all [][]int) {
	for _, turns := range counted(len(p.Pieces), 4) {
		if wet, leaks := flows(p, turns); leaks == 0 && slices.Contains(wet, p.To) {
			all = append(all, turns)
		}
	}
	return all
}

func total(list []int) (n int) {
	for _, k := range list {
		n += k
	}
	return n
}

// rolled moves a ball cell by cell.
func rolled(m api.Maze, cell, side int) int {
	for next := cell; next >= 0 && !m.Walls[next]; next = toSide(m.Wide, m.High, next, side) {
		cell = next
	}
	return cell
}

// escapes goes through the numbers of moves: for each cell it has the first list of just so many moves that ends there.
func escapes(m api.Maze) (moves []int, e api.Errno) {
	lists := map[int][]int{m.From: {}}
	for range m.Walls {
		if l, is := lists[m.To]; is {
			return l, api.OK
		}
		longer := map[int][]int{}
		for cell, l := range lists {
			for side := range 4 {
				next, one := rolled(m, cell, side), append(slices.Clone(l), side)
				if other, is := longer[next]; !is || slices.Compare(one, other) < 0 {
					longer[next] = one
				}
			}
		}
		lists = longer
	}
	return nil, api.ErrNone
}

// trapped joins ways until all are known.
func trapped(m api.Maze) (cells []int) {
	n := len(m.Walls)
	leads := make([][]bool, n)
	for a := range n {
		leads[a] = make([]bool, n)
		leads[a][a] = true
		for side := range 4 {
			leads[a][rolled(m, a, side)] = true
		}
	}
	for b := range n {
		for a := range n {
			for c := range n {
				leads[a][c] = leads[a][c] || leads[a][b] && leads[b][c]
			}
		}
	}
	for a := range n {
		if leads[m.From][a] && !leads[a][m.To] {
			cells = append(cells, a)
		}
	}
	return cells
}

// hung returns the hangings in which all sentences hold.
func hung(n int, l []api.Portrait) (all [][]int) {
	for _, hanging := range counted(n, n) {
		places := make([]int, n)
		for place, portrait := range hanging {
			places[portrait] += 100 + place
		}
		is := slices.Max(places) < 200
		for _, s := range l {
			is = is && isTrue(s, places) != s.Not
		}
		if is {
			all = append(all, hanging)
		}
	}
	return all
}

func isTrue(s api.Portrait, places []int) bool {
	a, b := places[s.A], places[s.B]
	switch s.Kind {
	case api.Hangs:
		return a == 100+s.N
	case api.Left:
		return b > a
	case api.Beside:
		return a+1 == b || b+1 == a
	}
	between := 0
	for _, place := range places {
		if a < place && place < b || b < place && place < a {
			between++
		}
	}
	return between >= s.N
}

// cellOf is what a turned sheet has in a cell, or 0.
func cellOf(s api.Sheet, turn, r, c int) byte {
	switch turn {
	case 1:
		r, c = len(s)-1-c, r
	case 2:
		r, c = len(s)-1-r, len(s[0])-1-c
	case 3:
		r, c = c, len(s[0])-1-r
	}
	if r < 0 || c < 0 || r >= len(s) || c >= len(s[0]) {
		return 0
	}
	return s[r][c]
}

// looked goes through the lower sheet.
func looked(upper, lower api.Sheet, s api.Spot) (text string) {
	for r := range lower {
		for c := range lower[r] {
			if cellOf(upper, s.Turn, r-s.Y, c-s.X) == '.' && lower[r][c] != '.' {
				text += lower[r][c : c+1]
			}
		}
	}
	return text
}

// written makes a text of notes, so that one can look how it ends.
func written(notes []int) string {
	text := ""
	for _, n := range notes {
		text += string(rune('0' + n))
	}
	return text
}

// hears looks at all that has been pressed.
func hears(melody, keys []int) int {
	for k := len(melody); k > 0; k-- {
		if strings.HasSuffix(written(keys), written(melody[:k])) {
			return k
		}
	}
	return 0
}

// maker makes puzzles by chance, always the same ones.
type maker struct{ *rand.Rand }

func trials(n int, each func(k maker)) {
	for i := range n {
		each(maker{rand.New(rand.NewPCG(3, uint64(i)))})
	}
}

func (k maker) list(length, low, high int) []int {
	l := make([]int, length)
	for i := range l {
		l[i] = low + k.IntN(high-low+1)
	}
	return l
}

func (k maker) text(length int, bytes string) string {
	l := make([]byte, length)
	for i := range l {
		l[i] = bytes[k.IntN(len(bytes))]
	}
	return string(l)
}

func (k maker) pipes(cells int) api.Pipes {
	wide := 1 + k.IntN(cells)
	high := 1 + k.IntN(cells/wide)
	pieces := k.list(wide*high, 0, 15)
	for i := range pieces {
		if k.IntN(2) == 0 {
			pieces[i] = []int{1, 2, 5, 3, 12, 9, 6, 0}[k.IntN(8)]
		}
	}
	return api.Pipes{Wide: wide, High: high, Pieces: pieces, From: k.IntN(len(pieces)), To: k.IntN(len(pieces))}
}

func (k maker) maze(cells int) api.Maze {
	wide := 1 + k.IntN(cells)
	high := 1 + k.IntN(cells/wide)
	m := api.Maze{Wide: wide, High: high, Walls: make([]bool, wide*high), From: k.IntN(wide * high), To: k.IntN(wide * high)}
	some := 2 + k.IntN(6)
	for i := range m.Walls {
		m.Walls[i] = i != m.From && i != m.To && k.IntN(some) == 0
	}
	return m
}

// square is a maze with sides that are about equally long.
func (k maker) square() api.Maze {
	m := k.maze(1)
	m.Wide, m.High = 3+k.IntN(6), 3+k.IntN(6)
	m.Walls = make([]bool, m.Wide*m.High)
	m.From, m.To = k.IntN(len(m.Walls)), k.IntN(len(m.Walls))
	for i := range m.Walls {
		m.Walls[i] = i != m.From && i != m.To && k.IntN(4) == 0
	}
	return m
}

func (k maker) sentence(n int) api.Portrait {
	s := api.Portrait{Kind: 1 + k.IntN(4), A: k.IntN(n), B: k.IntN(n), Not: k.IntN(2) == 0}
	if n == 1 || s.A == s.B {
		s.Kind = api.Hangs
	}
	switch s.Kind {
	case api.Hangs:
		s.B, s.N = 0, k.IntN(n)
	case api.Farther:
		s.N = k.IntN(n + 1)
	}
	return s
}

func (k maker) sentences(n, count int) (l []api.Portrait) {
	for range count {
		l = append(l, k.sentence(n))
	}
	return l
}

func (k maker) sheet(bytes string) (s api.Sheet) {
	columns := 1 + k.IntN(8)
	for range 1 + k.IntN(8) {
		s = append(s, k.text(columns, bytes))
	}
	return s
}

func (k maker) spot() api.Spot {
	return api.Spot{Turn: k.IntN(4), X: k.IntN(17) - 8, Y: k.IntN(17) - 8}
}

const someBytes = "abcxyz .-AZ`{\x00\xff0"

// P3.1: compared with what the chapter says.
func TestCiphersCompared(t *testing.T) {
	trials(2000, func(k maker) {
		text, n := k.text(k.IntN(201), someBytes), k.IntN(201)-100
		if s, e := puzzles.Shift(text, n); s != shifted(text, n) || e != api.OK {
			t.Errorf("Shift(%q, %d) = %q, %d", text, n, s, e)
		}
		key, back := k.text(1+k.IntN(12), alphabet), k.IntN(2) == 0
		if s, e := puzzles.Mix(text, key, back); s != mixed(text, key, back) || e != api.OK {
			t.Errorf("Mix(%q, %q, %v) = %q, %d", text, key, back, s, e)
		}
		short, part := k.text(k.IntN(12), "abc -"), k.text(k.IntN(3), "xyz -")
		var want []int
		for n := range 26 {
			if strings.Contains(shifted(short, n), part) {
				want = append(want, n)
			}
		}
		if l, e := puzzles.Crack(short, part); !slices.Equal(l, want) || e != api.OK {
			t.Errorf("Crack(%q, %q) = %v, %d, want %v", short, part, l, e, want)
		}
	})
}

// P3.1: compared with what the chapter says.
func TestNextCompared(t *testing.T) {
	trials(3000, func(k maker) {
		l := k.list(2+k.IntN(19), -10000, 10000)
		if k.IntN(4) > 0 {
			l = k.list(2+k.IntN(4), -1, 1)
		}
		want, degree, err := continued(l)
		if n, d, e := puzzles.Next(l); n != want || d != degree || e != err {
			t.Errorf("Next(%v) = %d, %d, %d, want %d, %d, %d", l, n, d, e, want, degree, err)
		}
	})
}

// P3.2: compared with what the chapter says.
func TestBalancesCompared(t *testing.T) {
	trials(600, func(k maker) {
		weights, load := k.list(k.IntN(7), 1, 1+k.IntN(12)), k.IntN(12)
		all := balanced(weights, load)
		want, err := best(all, func(sides []int) int { return len(sides) - strings.Count(written(sides), "0") })
		if l, e := puzzles.Weigh(weights, load); !slices.Equal(l, want) || e != err {
			t.Errorf("Weigh(%v, %d) = %v, %d, want %v, %d", weights, load, l, e, want, err)
		}
		if n, e := puzzles.Weighings(weights, load); n != len(all) || e != api.OK {
			t.Errorf("Weighings(%v, %d) = %d, %d, want %d", weights, load, n, e, len(all))
		}
		for _, sides := range all {
			if n, e := puzzles.Tips(weights, sides, load); n != 0 || e != api.OK {
				t.Errorf("Tips(%v, %v, %d) = %d, %d", weights, sides, load, n, e)
			}
		}
	})
}

// P3.3: compared with what the chapter says.
func TestPipesCompared(t *testing.T) {
	trials(3000, func(k maker) {
		p := k.pipes(9)
		turns := k.list(len(p.Pieces), 0, 3)
		want, leaks := flows(p, turns)
		if wet, n, e := puzzles.Flows(p, turns); !slices.Equal(wet, want) || n != leaks || e != api.OK {
			t.Errorf("Flows(%v, %v) = %v, %d, %d, want %v, %d", p, turns, wet, n, e, want, leaks)
		}
	})
	solved := 0
	trials(500, func(k maker) {
		p := k.pipes(5)
		all := plumbed(p)
		want, err := best(all, total)
		if turns, e := puzzles.Plumb(p); !slices.Equal(turns, want) || e != err {
			t.Errorf("Plumb(%v) = %v, %d, want %v, %d", p, turns, e, want, err)
		}
		if n, e := puzzles.Plumbings(p); n != len(all) || e != api.OK {
			t.Errorf("Plumbings(%v) = %d, %d, want %d", p, n, e, len(all))
		}
		solved += len(want)
	})
	if solved < 100 {
		t.Errorf("there are too few pipes that can be solved: %d", solved)
	}
}

// P3.4: compared with what the chapter says.
func TestMazesCompared(t *testing.T) {
	moved, caught := 0, 0
	trials(1000, func(k maker) {
		m := k.maze(64)
		if k.IntN(3) > 0 {
			m = k.square()
		}
		moves := k.list(k.IntN(12), 0, 3)
		end := m.From
		for _, side := range moves {
			end = rolled(m, end, side)
		}
		if cell, e := puzzles.Roll(m, moves); cell != end || e != api.OK {
			t.Errorf("Roll(%v, %v) = %d, %d, want %d", m, moves, cell, e, end)
		}
		want, err := escapes(m)
		if moves, e := puzzles.Escape(m); !slices.Equal(moves, want) || e != err {
			t.Errorf("Escape(%v) = %v, %d, want %v, %d", m, moves, e, want, err)
		}
		traps := trapped(m)
		if l, e := puzzles.Traps(m); !slices.Equal(l, traps) || e != api.OK {
			t.Errorf("Traps(%v) = %v, %d, want %v", m, l, e, traps)
		}
		moved, caught = max(moved, len(want)), caught+len(traps)
	})
	if moved < 6 || caught < 100 {
		t.Errorf("the mazes are too simple: at most %d moves, %d traps", moved, caught)
	}
}

// P3.5: compared with what the chapter says.
func TestPortraitsCompared(t *testing.T) {
	trials(300, func(k maker) {
		n := 1 + k.IntN(5)
		l := k.sentences(n, k.IntN(5))
		all, count := hung(n, l), 1+k.IntN(64)
		if got, e := puzzles.Hang(n, l, count); !equalLists(got, all[:min(count, len(all))]) || e != api.OK {
			t.Errorf("Hang(%d, %v, %d) = %v, %d", n, l, count, got, e)
		}
		if got, e := puzzles.Hangings(n, l); got != len(all) || e != api.OK {
			t.Errorf("Hangings(%d, %v) = %d, %d, want %d", n, l, got, e, len(all))
		}
	})
}

// P3.6: compared with what the chapter says.
func TestSheetsCompared(t *testing.T) {
	trials(300, func(k maker) {
		upper, lower := k.sheet(".x."), k.sheet("ab.")
		for range 20 {
			s := k.spot()
			if text, e := puzzles.See(upper, lower, s); text != looked(upper, lower, s) || e != api.OK {
				t.Errorf("See(%q, %q, %v) = %q, %d", upper, lower, s, text, e)
			}
		}
		word := k.text(1+k.IntN(2), "ab")
		var want []api.Spot
		for _, turn := range []int{0, 1, 2, 3} {
			for y := range 17 {
				for x := range 17 {
					if s := (api.Spot{Turn: turn, X: x - 8, Y: y - 8}); looked(upper, lower, s) == word {
						want = append(want, s)
					}
				}
			}
		}
		if l, e := puzzles.Find(upper, lower, word); !slices.Equal(l, want) || e != api.OK {
			t.Errorf("Find(%q, %q, %q) = %v, %d, want %v", upper, lower, word, l, e, want)
		}
	})
}

// P3.7: compared with what the chapter says.
func TestMelodiesCompared(t *testing.T) {
	trials(3000, func(k maker) {
		high := 1 + k.IntN(2)
		melody, keys := k.list(1+k.IntN(6), 0, high), k.list(k.IntN(40), 0, high)
		heard, key := k.IntN(len(melody)), k.IntN(high+1)
		want := hears(melody, append(slices.Clone(melody[:heard]), key))
		if n, e := puzzles.Press(melody, heard, key); n != want || e != api.OK {
			t.Errorf("Press(%v, %d, %d) = %d, %d, want %d", melody, heard, key, n, e, want)
		}
		opens := -1
		if i := strings.Index(written(keys), written(melody)); i >= 0 {
			opens = i + len(melody)
		}
		if n, e := puzzles.Opens(melody, keys); n != opens || e != api.OK {
			t.Errorf("Opens(%v, %v) = %d, %d, want %d", melody, keys, n, e, opens)
		}
	})
}
