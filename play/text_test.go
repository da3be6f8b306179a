package play_test

import (
	"reflect"
	"slices"
	"strings"
	"testing"

	"padlock/api"
	"padlock/play"
	"padlock/room"
)

// full uses all that lines of locks and notes have.
func full() api.Game {
	g := example()
	g.Locks = []api.CodeLock{{Wheels: 2, Symbols: 4}, {Wheels: 1, Symbols: 2}, {Wheels: 4, Symbols: 10}}
	g.Codes = [][]int{{3, 1}, {0}, {9, 0, 0, 7}}
	g.Notes = []api.Note{
		{Name: "ifs", Lock: 2, When: api.Cond{{State: 1}, {Thing: 1, State: 1, Not: true}, {Thing: 1}}, Clue: api.Clue{Kind: api.Right, N: 2, M: 1, Guess: []int{9, 1, 7, 7}, Not: true}},
		{Name: "note", Place: 1, Clue: api.Clue{Kind: api.Remain, N: 2, M: 1}},
		{Name: "hall", Place: 1, Lock: 1, Clue: api.Clue{Kind: api.At}},
		{Name: "tries", Lock: 2, Clue: api.Clue{Kind: api.Sum, A: 1, B: 3, N: 100, Not: true}},
		{Name: "a", Lock: 2, Clue: api.Clue{Kind: api.Has, N: 0, M: 2}},
		{Name: "b", Lock: 2, When: api.Cond{{Thing: 1, Not: true}}, Clue: api.Clue{Kind: api.Less, A: 2, B: 0}},
		{Name: "c", Lock: 2, Clue: api.Clue{Kind: api.Same, A: 1, B: 2}},
		{Name: "abcdefghijkl", Place: 1, Lock: -1, When: api.Cond{{State: 1}}},
		{Name: "place", Lock: -1},
	}
	g.Tries = 100
	return g
}

const fullText = roomText + `codelock 2 4 31
codelock 1 2 0
codelock 4 10 9007
note ifs at hall if box=1 door!1 door=0 lock 2 not right 2 1 9177
note note at vault lock 0 remain 0 2 1
note hall at vault lock 1 at 0 0
note tries at hall lock 2 not sum 1 3 100
note a at hall lock 2 has 0 2
note b at hall if door!0 lock 2 less 2 0
note c at hall lock 2 same 1 2
note abcdefghijkl at vault if box=1
note place at hall
tries 100
`

// P4.11 and P4.12: the text of a game, both ways.
func TestFormatAndParse(t *testing.T) {
	for _, c := range []struct {
		g    api.Game
		text string
	}{
		{example(), exampleText}, {full(), fullText},
		{api.Game{Room: api.Room{Places: []string{"p"}, Players: 1}, Tries: 7}, "place p\nplayers 1\ngoal\ntries 7\n"},
	} {
		if s, e := play.Format(c.g); s != c.text || e != api.OK {
			t.Errorf("Format = %q, %d, want %q", s, e, c.text)
		}
		if g, line, e := play.Parse(c.text); !reflect.DeepEqual(g, c.g) || line != 0 || e != api.OK {
			t.Errorf("Parse = %+v, %d, %d, want %+v", g, line, e, c.g)
		}
	}
}

// wrong reports unless Parse says that a line is wrong, and nothing else.
func wrong(t *testing.T, text string, line int) {
	t.Helper()
	if g, at, e := play.Parse(text); e != api.ErrForm || at != line || !reflect.DeepEqual(g, api.Game{}) {
		t.Errorf("Parse(%q) = %v, %d, %d, want the line %d", text, g, at, e, line)
	}
	if at, e := firstWrong(text); at != line || e != api.ErrForm {
		t.Errorf("the oracle says the line %d, %d of %q", at, e, text)
	}
}

// P4.12: the first line that does not have the form.
func TestParseForm(t *testing.T) {
	const head = roomText + "codelock 2 4 31\n"
	for _, line := range []string{
		"", " ", "x", "Note a at hall", "goal", "players 1", "place b", "\xff\xfe", "notes a at hall", "tries", "try 1",
		"codelock", "codelock 2", "codelock 2 4", "codelock 2 4 ", "codelock 2 4 31 1", "codelock 2 4 31 ", "codelock  2 4 31", "codelock 2 4 31451", "codelock 2 4 3a", "codelock 2 4 -3", "codelock 2 4 3 1", "codelock 02 4 31", "codelock 2 04 31", "codelock 1000 4 31", "codelock 2 1000 31", "codelock -2 4 31", "codelock +2 4 31", "codelock 2 4 31\r", "codelock two 4 31", " codelock 2 4 31", "codelock 2 4 ٣",
		"note", "note ", "note a", "note a at", "note a at ", "note a hall", "note a gone", "note a at attic", "note a at box", "note  at hall", "note A at hall", "note a1 at hall", "note at at hall", "note lock at hall", "note brings at hall", "note \xff at hall", "note a at hall ", "note a at hall x", "note a at  hall", "note a at hall at hall", "note a At hall",
		"note a at hall if", "note a at hall if ", "note a at hall if box", "note a at hall if box=", "note a at hall if box=01", "note a at hall if box=100", "note a at hall if box==1", "note a at hall if box!=1", "note a at hall if key=1", "note a at hall if =1", "note a at hall if box=1 ", "note a at hall if box=1  door=1", "note a at hall if box=1 if box=1", "note a at hall box=1", "note a at hall if box=1 x", "note a at hall if lock 0 at 0 3", "note a at hall if box=-1", "note a at hall if box=1 at hall", "note a at hall if box=1 with key", "note a at hall with key",
		"note a at hall lock", "note a at hall lock ", "note a at hall lock 0", "note a at hall lock 1", "note a at hall lock x", "note a at hall lock 0 ", "note a at hall lock 1 at 0 3", "note a at hall lock -1", "note a at hall lock -1 at 0 3", "note a at hall lock 00 at 0 3", "note a at hall lock 1000 at 0 3", "note a at hall lock 0  at 0 3", "note a at hall lock  0 at 0 3", "note a at hall lock 0 at 0 3 ", "note a at hall lock 0 at 0 4", "note a at hall lock 0 at 2 3", "note a at hall lock 0 at 0", "note a at hall lock 0 at 0 03", "note a at hall lock 0 at 0 3 3", "note a at hall lock 0 no at 0 3", "note a at hall lock 0 not not at 0 3", "note a at hall lock 0 right 0 0 333", "note a at hall lock 0 right 0 0 34", "note a at hall lock 0 sum 1 0 4", "note a at hall lock 0 at 0 3 if box=1", "note a at hall lock 0 if box=1 at 0 3", "note a at hall lock 0 at 0 3 lock 0 at 0 3", "note a at hall lock x at 0 3", "note a at hall lock 0 at 0 3\r", "note a lock 0 at 0 3 at hall",
		"tries ", "tries 01", "tries 1000", "tries -1", "tries +1", "tries one", "tries 1 ", "tries 1 1", "tries  1", "tries 1\r", " tries 1", "Tries 1",
	} {
		wrong(t, head+line+"\n"+"tries 1\n", 12)
		wrong(t, head+line+"\n", 12)
		if line != "" {
			wrong(t, head+line, 12)
		}
	}
	for _, text := range []string{exampleText, fullText} {
		n := strings.Count(text, "\n")
		wrong(t, strings.TrimSuffix(text, "\n"), n)
		for _, more := range []string{"\n", "x", "tries 1\n", "note z at hall\n", "codelock 2 4 31\n", "goal\n"} {
			wrong(t, text+more, n+1)
		}
		wrong(t, "\n"+text, 1)
		wrong(t, strings.ReplaceAll(text, "\n", "\r\n"), 1)
	}
}

// P4.12: each kind of line may stand only behind some others, and the last one may not be missing.
func TestParseOrder(t *testing.T) {
	lines := []string{"codelock 2 4 31\n", "note a at hall\n", "tries 1\n"}
	wrong(t, roomText+lines[0], 12)
	wrong(t, roomText+lines[1], 12)
	for i, a := range lines {
		for j, b := range lines {
			switch {
			case i == 2 || i > j:
				wrong(t, roomText+a+b, 12)
			case j < 2:
				wrong(t, roomText+a+b, 13)
			default:
				if _, line, e := play.Parse(roomText + a + b); line != 0 || e == api.ErrForm {
					t.Errorf("Parse(%q): line %d, %d", a+b, line, e)
				}
			}
		}
	}
	// A note may speak only of a lock that stands before it.
	wrong(t, roomText+"note a at hall lock 0 at 0 3\ncodelock 2 4 31\ntries 1\n", 11)
	wrong(t, roomText+"codelock 2 4 31\nnote a at hall lock 1 at 0 0\ncodelock 1 2 0\ntries 1\n", 12)
	wrong(t, roomText, 11)
}

// P4.12: the lines of the room are those up to the goal; their errors come first.
func TestParseRoom(t *testing.T) {
	const foot = "codelock 2 4 31\ntries 1\n"
	for _, c := range []struct {
		text string
		line int
		e    api.Errno
	}{
		{"", 1, api.ErrForm}, {"goal", 1, api.ErrForm}, {"goal\n", 1, api.ErrForm}, {"tries 1\n", 1, api.ErrForm}, {"place hall\nplayers 1\n", 3, api.ErrForm}, {"place hall\nplayers 1\n" + foot, 3, api.ErrForm}, {"place hall\nplayers 1\ngoal", 3, api.ErrForm}, {"place hall\nplayers 1\ngoals\n" + foot, 3, api.ErrForm}, {"place hall\nplayers 1\ngoal\t\n" + foot, 3, api.ErrForm},
		{"place hall\nplayers 1\ngoal \n" + foot, 3, api.ErrForm}, {"place hall\nplayers 1\ngoal box=1\n" + foot, 3, api.ErrForm}, {"place hall\nx\nplayers 1\ngoal\n" + foot, 2, api.ErrForm},
		{"place hall\ngoal\nplayers 1\ngoal\n" + foot, 2, api.ErrForm}, {"place hall\nplayers 1\ngoal\ngoal\n" + foot, 4, api.ErrForm},
		// What is wrong with the room comes before what is wrong with the lines behind it.
		{"place hall\nplace hall\nplayers 1\ngoal\nx\n", 0, api.ErrPlace}, {"place hall\nplayers 0\ngoal\nx\n", 0, api.ErrArg}, {"place hall\nplayers 5\ngoal\ntries 0\n", 0, api.ErrArg}, {"players 1\ngoal\n", 0, api.ErrPlace}, {"place hall\nact a at hall lock 8\nplayers 1\ngoal\n", 0, api.ErrAct}, {strings.Repeat("place p\n", 9) + "players 1\ngoal\nx", 0, api.ErrMany},
		// And what is wrong with a line before what is wrong with the game.
		{roomText + "codelock 5 4 31\ntries 0\n", 0, api.ErrLock}, {roomText + "codelock 5 4 31\ntries 0", 12, api.ErrForm}, {roomText + "tries 0\n", 0, api.ErrAct},
	} {
		if g, line, e := play.Parse(c.text); line != c.line || e != c.e || !reflect.DeepEqual(g, api.Game{}) {
			t.Errorf("Parse(%q) = %v, %d, %d, want %d, %d", c.text, g, line, e, c.line, c.e)
		}
	}
}

// P4.12: what has the form need not be valid; then the error is that of Check.
func TestParseCheck(t *testing.T) {
	const lock = "codelock 2 4 31\n"
	for _, c := range []struct {
		lines string
		e     api.Errno
	}{
		{lock + "tries 1\n", api.OK}, {lock + "tries 100\n", api.OK}, {lock + "tries 101\n", api.ErrArg}, {lock + "tries 999\n", api.ErrArg}, {lock + "tries 0\n", api.ErrArg},
		{"codelock 999 4 31\ntries 1\n", api.ErrLock}, {"codelock 0 4 31\ntries 1\n", api.ErrLock}, {"codelock 2 999 31\ntries 1\n", api.ErrLock}, {"codelock 2 4 34\ntries 1\n", api.ErrCode}, {"codelock 2 4 3\ntries 1\n", api.ErrCode}, {"codelock 2 4 3111\ntries 1\n", api.ErrCode}, {"codelock 4 10 0000\ntries 1\n", api.OK},
		{strings.Repeat(lock, 8) + "tries 1\n", api.OK}, {strings.Repeat(lock, 9) + "tries 1\n", api.ErrMany}, {strings.Repeat(lock, 9) + "note a at hall lock 8 at 0 3\ntries 1\n", api.ErrMany},
		{lock + strings.Repeat("note a at hall\n", 17) + "tries 1\n", api.ErrMany}, {lock + strings.Repeat("note a at hall\n", 2) + "tries 1\n", api.ErrNote}, {lock + "note abcdefghijklm at hall\ntries 1\n", api.ErrNote}, {lock + "note a at hall lock 0 at 0 2\ntries 1\n", api.ErrNote}, {lock + "note a at hall lock 0 not at 0 3\ntries 1\n", api.ErrNote},
		{lock + "note a at hall if box=2\ntries 1\n", api.ErrCond}, {lock + "note a at hall if box=99\ntries 1\n", api.ErrCond}, {lock + "note a at hall if" + strings.Repeat(" box=1", 9) + "\ntries 1\n", api.ErrCond}, {lock + "note a at hall if" + strings.Repeat(" box=1", 8) + "\ntries 1\n", api.OK}, {lock + "note a at hall if box=2\nnote a at hall\ntries 0\n", api.ErrCond}, {lock + "note a at hall if box=2 lock 0 at 0 2\ntries 1\n", api.ErrNote},
	} {
		g, line, e := play.Parse(roomText + c.lines)
		if e != c.e || line != 0 || e != api.OK && !reflect.DeepEqual(g, api.Game{}) {
			t.Errorf("Parse(%q) = %v, %d, %d, want %d", c.lines, g, line, e, c.e)
		}
		if at, e := firstWrong(roomText + c.lines); at != 0 || e != api.OK {
			t.Errorf("the oracle does not take %q: %d, %d", c.lines, at, e)
		}
	}
	// No clue can be read about a lock that is not valid.
	wrong(t, roomText+"codelock 5 4 31\nnote a at hall lock 0 at 0 3\ntries 1\n", 12)
}

// P4.12: the limit of a text, in bytes, comes before all else.
func TestParseMany(t *testing.T) {
	lock := "codelock 2 4 31\n"
	long := roomText + strings.Repeat(lock, api.MaxText/len(lock))
	for _, c := range []struct {
		text string
		line int
		e    api.Errno
	}{
		{long[:api.MaxText+1], 0, api.ErrMany}, {strings.Repeat("\xff", api.MaxText), 1, api.ErrForm}, {strings.Repeat("\xff", api.MaxText+1), 0, api.ErrMany}, {strings.Repeat("\n", api.MaxText+1), 0, api.ErrMany},
		{roomText + strings.Repeat(lock, 4000) + "tries 1\n", 0, api.ErrMany}, {roomText + "note a at hall if" + strings.Repeat(" !", 32000) + "\n", 11, api.ErrForm},
		{roomText + lock + "note " + strings.Repeat("a", api.MaxText-len(roomText)-len(lock)-5-9-8) + " at hall\ntries 1\n", 0, api.ErrNote}, {roomText + lock + "note " + strings.Repeat("a", api.MaxText-len(roomText)-len(lock)-5-9-8+1) + " at hall\ntries 1\n", 0, api.ErrMany},
	} {
		if g, line, e := play.Parse(c.text); line != c.line || e != c.e || !reflect.DeepEqual(g, api.Game{}) {
			t.Errorf("Parse of %d bytes: line %d, %d, want %d, %d", len(c.text), line, e, c.line, c.e)
		}
	}
}

// P4.12: Parse against the oracle, for texts that are nearly right.
func TestParseByOracle(t *testing.T) {
	words := append(slices.Clone(reserved), "", " ", "note", "codelock", "tries", "goal", "box", "box=1", "door!0", "0", "1", "2", "10", "100", "00", "not", "sum", "less", "\n", "\n", "\r", "hall", "31")
	right := 0
	trials(t, 300, func(t *testing.T, k maker, g api.Game) {
		text, e := play.Format(g)
		if e != api.OK {
			t.Fatalf("Format: %d", e)
		}
		own, _ := room.Format(g.Room)
		for range 30 {
			list := strings.Split(strings.ReplaceAll(text[len(own):], "\n", " \n "), " ")
			for range 1 + k.IntN(2) {
				i, j := k.IntN(len(list)), k.IntN(len(list))
				switch k.IntN(5) {
				case 0:
					list[i] = words[k.IntN(len(words))]
				case 1:
					list = slices.Delete(list, i, i+1)
				case 2:
					list = slices.Insert(list, i, list[j])
				case 3:
					list[i], list[j] = list[j], list[i]
				case 4:
					list[i] = list[j]
				}
			}
			edited := own + strings.ReplaceAll(strings.ReplaceAll(strings.Join(list, " "), " \n ", "\n"), " \n", "\n")
			line, want := firstWrong(edited)
			back, at, e := play.Parse(edited)
			if at != line || (e == api.ErrForm) != (want == api.ErrForm) || e != api.OK && !reflect.DeepEqual(back, api.Game{}) {
				t.Errorf("Parse(%q) = %v, %d, %d, want the line %d", edited, back, at, e, line)
			}
			if again, e2 := play.Format(back); e == api.OK && (again != edited || e2 != api.OK) {
				t.Errorf("Format of Parse(%q) = %q, %d", edited, again, e2)
			}
			if want == api.OK {
				right++
			}
		}
	})
	if right < 300 {
		t.Errorf("only %d texts have the form", right)
	}
}

// P4.17: Parse of Format is the same game.
func TestTextLaw(t *testing.T) {
	texts := map[string]api.Game{}
	trials(t, 400, func(t *testing.T, _ maker, g api.Game) {
		text, e := play.Format(g)
		if line, wrong := firstWrong(text); e != api.OK || line != 0 || wrong != api.OK {
			t.Errorf("Format = %q, %d", text, e)
		}
		if back, line, e := play.Parse(text); !play.Same(back, g) || !play.Same(g, back) || line != 0 || e != api.OK {
			t.Errorf("Parse(%q) = %+v, %d, %d, want %+v", text, back, line, e, g)
		}
		if other, is := texts[text]; is && !play.Same(other, g) {
			t.Errorf("%q is the text of two games", text)
		}
		texts[text] = g
	})
}

// P4.13: any field makes games differ; nil and empty lists do not.
func TestSame(t *testing.T) {
	if !play.Same(full(), full()) || !play.Same(api.Game{}, api.Game{}) {
		t.Error("equal games are not the same")
	}
	a := api.Game{Codes: [][]int{nil}, Notes: []api.Note{{}}}
	b := api.Game{Room: api.Room{Places: []string{}}, Locks: []api.CodeLock{}, Codes: [][]int{{}}, Notes: []api.Note{{When: api.Cond{}, Clue: api.Clue{Guess: []int{}}}}}
	if !play.Same(a, b) || !play.Same(b, a) || !play.Same(api.Game{}, api.Game{Codes: [][]int{}, Notes: []api.Note{}}) {
		t.Error("nil and empty lists differ")
	}
	n := 0
	eachChange(reflect.ValueOf(full()), func(path string, change func(reflect.Value)) {
		n++
		g := full()
		change(reflect.ValueOf(&g).Elem())
		if play.Same(g, full()) || play.Same(full(), g) {
			t.Errorf("the same but for %s", path)
		}
	})
	if n < 500 {
		t.Errorf("only %d changes", n)
	}
}
