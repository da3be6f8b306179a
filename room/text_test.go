package room_test

import (
	"reflect"
	"slices"
	"strings"
	"testing"

	"padlock/api"
	"padlock/room"
)

// full uses all that the language has.
func full() api.Room {
	return api.Room{
		Places:  []string{"hall", "vault", "place"},
		Things:  []api.Thing{{Name: "box", States: 2, Start: 1}, {Name: "hall", Place: 1, States: 6, Start: 5}},
		Props:   []api.Prop{{Name: "key", Place: 1}, {Name: "box", Place: api.Gone}, {Name: "c", Place: api.Gone, When: api.Cond{{Thing: 1, State: 3, Not: true}}}, {Name: "d", When: api.Cond{{State: 1}, {Thing: 1, Not: true}}}},
		Ways:    []api.Way{{A: 2, B: 0}, {A: 0, B: 1, When: api.Cond{{Thing: 0, State: 1}}}},
		Acts:    []api.Act{{Name: "wait", Lock: -1}, {Name: "all", Place: 2, Lock: 7, Uses: []int{0, 2}, When: api.Cond{{Thing: 1, State: 4}}, Sets: []api.Set{{Thing: 1, State: 2}, {}}, Spends: []int{2}, Brings: []int{1, 3}}, {Name: "few", Place: 1, Lock: 0, Sets: []api.Set{{Thing: 0, State: 1}}, Brings: []int{0}}},
		Autos:   []api.Auto{{Set: api.Set{Thing: 1, State: 5}}, {When: api.Cond{{State: 1, Not: true}, {Thing: 1, State: 2}}, Set: api.Set{}}},
		Players: 4,
		Goal:    api.Cond{{Thing: 0, State: 1}, {Thing: 1, State: 3, Not: true}},
	}
}

const fullText = `place hall
place vault
place place
thing box at hall states 2 start 1
thing hall at vault states 6 start 5
prop key at vault
prop box gone
prop c gone if hall!3
prop d at hall if box=1 hall!0
way place hall
way hall vault if box=1
act wait at hall
act all at place lock 7 with key c if hall=4 sets hall=2 box=0 spends c brings box d
act few at vault lock 0 sets box=1 brings key
auto hall=5
auto box=0 if box!1 hall=2
players 4
goal box=1 hall!3
`

// P2.9 and P2.10: the language, both ways.
func TestFormatAndParse(t *testing.T) {
	for _, c := range []struct {
		r    api.Room
		text string
	}{{example(), exampleText}, {full(), fullText}, {api.Room{Places: []string{"p"}, Players: 1}, "place p\nplayers 1\ngoal\n"}} {
		if s, e := room.Format(c.r); s != c.text || e != api.OK {
			t.Errorf("Format = %q, %d, want %q", s, e, c.text)
		}
		if r, line, e := room.Parse(c.text); !reflect.DeepEqual(r, c.r) || line != 0 || e != api.OK {
			t.Errorf("Parse = %+v, %d, %d, want %+v", r, line, e, c.r)
		}
	}
}

// P2.10: the first line that does not have the form, or may not stand there.
func TestParseForm(t *testing.T) {
	const head = "place hall\nplace vault\nthing box at hall states 2 start 0\nprop key at hall\nprop map gone\n"
	const foot = "players 1\ngoal\n"
	wrong := func(text string, want int) {
		t.Helper()
		if r, line, e := room.Parse(text); e != api.ErrForm || line != want || !reflect.DeepEqual(r, api.Room{}) {
			t.Errorf("Parse(%q) = %v, %d, %d, want the line %d", text, r, line, e, want)
		}
	}
	for _, line := range []string{
		"", " ", "x", "Place hall", "place", "place ", "place  b", " place b", "place b ", "place b c", "place b\t", "place b\r", "place b\x00", "place B", "place b1", "place \xff", "place at", "place brings", "thing lamp at hall states 2 start 0 ", "thing at at hall states 2 start 0",
		"thing lamp at attic states 2 start 0", "thing lamp at box states 2 start 0", "thing lamp hall states 2 start 0", "thing lamp at hall states 02 start 0", "thing lamp at hall states 2 start 00", "thing lamp at hall states 100 start 0", "thing lamp at hall states -2 start 0", "thing lamp at hall states +2 start 0", "thing lamp at hall states  start 0", "thing lamp at hall states 2 start", "thing lamp at hall states 2", "thing lamp at hall start 0 states 2", "thing lamp gone states 2 start 0",
		"prop coin", "prop coin at", "prop coin at gone", "prop coin at attic", "prop coin gone at hall", "prop coin at hall if", "prop coin at hall if ", "prop coin if box=1 at hall", "prop coin at hall box=1", "prop coin at hall if box", "prop coin at hall if box=", "prop coin at hall if =1", "prop coin at hall if box=01", "prop coin at hall if box=100", "prop coin at hall if box==1", "prop coin at hall if box!=1", "prop coin at hall if box=!1", "prop coin at hall if box=1  box=1", "prop coin at hall if box=1 ", "prop coin at hall if box=1 if box=1", "prop coin at hall if key=1", "prop coin at hall if lamp=1", "prop coin at hall if hall=1", "prop coin at hall if box=-1", "prop if gone",
		"way", "way hall", "way hall attic", "way hall box", "way hall vault if", "way hall vault vault", "way hall vault if box=1 gone", "way hall at vault",
		"act", "act x", "act x hall", "act x at attic", "act x gone", "act x at hall lock", "act x at hall lock -1", "act x at hall lock 100", "act x at hall lock 07", "act x at hall with", "act x at hall with hall", "act x at hall with box", "act x at hall with coin", "act x at hall with if box=1", "act x at hall with key lock 1", "act x at hall if box=1 with key", "act x at hall if", "act x at hall sets", "act x at hall sets box!1", "act x at hall sets key=1", "act x at hall sets box", "act x at hall sets box=1 if box=1", "act x at hall spends key sets box=1", "act x at hall spends", "act x at hall spends key spends key", "act x at hall brings", "act x at hall brings key spends map", "act x at hall brings box", "act x at hall with key at", "act lock at hall", "act X at hall",
		"auto", "auto box", "auto box!1", "auto key=1", "auto box=1 box=1", "auto box=1 if", "auto box=1 if box", "auto box=1 when box=1", "auto box=001",
		"players", "players 01", "players 100", "players one", "players -1", "players 1 ", "players 1 1", "goal", "goal box=1", "hall", "states", "\xff\xfe", "places hall",
	} {
		wrong(head+line+"\n"+foot, 6)
		wrong(head+line+"\n", 6)
		wrong(head+line, 6)
	}
	for _, goal := range []string{"goal ", "goal if box=1", "goal box", "goal box=1 ", "goal  box=1", "goal key=1", "goal 1", "goals", "goal box=1 at", " goal", "goal\r", "players 1"} {
		wrong(head+"players 1\n"+goal+"\n", 7)
	}
	for _, text := range []string{exampleText, fullText} {
		n := strings.Count(text, "\n")
		wrong(strings.TrimSuffix(text, "\n"), n)
		wrong(text+"\n", n+1)
		wrong(text+"x", n+1)
		wrong(text+"goal\n", n+1)
		wrong(text+"place attic\n", n+1)
		wrong("\n"+text, 1)
		wrong(strings.ReplaceAll(text, "\n", "\r\n"), 1)
	}
	wrong("", 1)
	wrong("\n", 1)
	wrong("goal\n", 1)
	wrong("players 1\n", 2)
	wrong("thing box at hall states 2 start 0\n", 1)
}

// P2.10: each kind of line may stand only behind some others, and none may be missing at the end.
func TestParseOrder(t *testing.T) {
	const places, things = "place hall\nplace vault\n", "thing box at hall states 2 start 0\n"
	lines := []string{"place b\n", "thing lamp at hall states 2 start 0\n", "prop coin gone\n", "way hall vault\n", "act x at hall\n", "auto box=1\n", "players 1\n", "goal\n"}
	for i, a := range lines {
		for j, b := range lines {
			want := 5
			switch {
			case i == 0 || i == 7: // the first one may not stand behind a thing, or there
				want = 4
			case i == 6 && j == 7:
				want = 0
			case i < 6 && i <= j && j < 7:
				want = 6
			}
			_, line, e := room.Parse(places + things + a + b)
			if line != want || (e != api.ErrForm) != (want == 0) {
				t.Errorf("Parse(%q): line %d, %d, want %d", a+b, line, e, want)
			}
		}
	}
}

// P2.10: Parse against the oracle, for texts that are nearly right.
func TestParseByOracle(t *testing.T) {
	words := append(slices.Clone(reserved), "", " ", "place", "thing", "prop", "way", "act", "auto", "players", "goal", "box", "box=1", "box!1", "key", "hall", "0", "1", "7", "10", "00", "\n", "\n", "\r", "Hall", "x=1")
	right := 0
	trials(t, 300, func(t *testing.T, k maker, r api.Room) {
		text, e := room.Format(r)
		if e != api.OK {
			t.Fatalf("Format: %d", e)
		}
		for range 40 {
			list := strings.Split(strings.ReplaceAll(text, "\n", " \n "), " ")
			for range 1 + k.IntN(2) {
				i, j := k.IntN(len(list)), k.IntN(len(list))
				switch k.IntN(5) {
				case 0:
					list[i] = words[k.IntN(len(words))]
				case 1:
					list = slices.Delete(list, i, i+1)
				case 2:
					list = slices.Insert(list, i, list[j])
				case 3:
					list[i], list[j] = list[j], list[i]
				case 4:
					list[i] = list[j]
				}
			}
			edited := strings.ReplaceAll(strings.ReplaceAll(strings.Join(list, " "), " \n ", "\n"), " \n", "\n")
			if checkParse(t, edited) {
				right++
			}
		}
	})
	if right < 300 {
		t.Errorf("only %d texts have the form", right)
	}
}

// checkParse compares Parse of a text with the oracle; it reports whether the text has the form.
func checkParse(t *testing.T, text string) bool {
	t.Helper()
	want := firstWrong(text)
	r, line, e := room.Parse(text)
	if line != want || (e == api.ErrForm) != (want > 0) || e != api.OK && !reflect.DeepEqual(r, api.Room{}) {
		t.Errorf("Parse(%q) = %+v, %d, %d, want the line %d", text, r, line, e, want)
	}
	if e == api.OK {
		if s, e := room.Format(r); s != text || e != api.OK {
			t.Errorf("Format of Parse(%q) = %q, %d", text, s, e)
		}
	}
	return want == 0
}

// P2.10: what has the form need not be valid; then the error is that of Check.
func TestParseCheck(t *testing.T) {
	const end = "players 1\ngoal\n"
	const box = "place hall\nthing box at hall states 2 start 0\n"
	for _, c := range []struct {
		text string
		e    api.Errno
	}{
		{end, api.ErrPlace}, {"place hall\nplace hall\n" + end, api.ErrPlace}, {"place abcdefghijklm\n" + end, api.ErrPlace}, {"place place\n" + end, api.OK}, {strings.Repeat("place p\n", 9) + end, api.ErrMany},
		{"place hall\nthing box at hall states 99 start 0\n" + end, api.ErrThing}, {"place hall\nthing box at hall states 2 start 2\n" + end, api.ErrThing}, {box + "thing box at hall states 2 start 0\n" + end, api.ErrThing},
		{"place hall\nprop a gone\nprop a gone\n" + end, api.ErrProp}, {box + "prop box gone if box=2\n" + end, api.ErrCond}, {box + "prop box gone if" + strings.Repeat(" box=1", 9) + "\n" + end, api.ErrCond}, {box + "prop box gone if" + strings.Repeat(" box=1", 8) + "\n" + end, api.OK},
		{"place hall\nway hall hall\n" + end, api.ErrWay}, {"place hall\nplace hall\nway hall hall\n" + end, api.ErrPlace},
		{"place hall\nact a at hall lock 8\n" + end, api.ErrAct}, {"place hall\nact a at hall lock 99\n" + end, api.ErrAct}, {"place hall\nact a at hall lock 7\n" + end, api.OK}, {"place hall\nprop a gone\nact a at hall with a a\n" + end, api.ErrAct}, {"place hall\nprop a gone\nact a at hall spends a\n" + end, api.ErrAct}, {"place hall\nprop a gone\nprop b gone\nact a at hall with b a\n" + end, api.ErrAct}, {"place hall\nact a at hall\nact a at hall\n" + end, api.ErrAct}, {box + "act a at hall sets box=1 box=1\n" + end, api.ErrAct},
		{box + "auto box=2\n" + end, api.ErrAuto}, {"place hall\nplayers 0\ngoal\n", api.ErrArg}, {"place hall\nplayers 5\ngoal\n", api.ErrArg}, {"place hall\nplayers 99\ngoal\n", api.ErrArg}, {box + "players 1\ngoal box=2\n", api.ErrCond}, {box + "players 1\ngoal box!1\n", api.OK},
	} {
		if firstWrong(c.text) != 0 {
			t.Errorf("the oracle does not take %q", c.text)
		}
		r, line, e := room.Parse(c.text)
		if e != c.e || line != 0 || e != api.OK && !reflect.DeepEqual(r, api.Room{}) {
			t.Errorf("Parse(%q) = %v, %d, %d, want %d", c.text, r, line, e, c.e)
		}
	}
	// An error of the form comes first, and so does what is too long for a text.
	if _, line, e := room.Parse("place hall\nplace hall\nx\n"); line != 3 || e != api.ErrForm {
		t.Errorf("Parse with both errors: line %d, %d", line, e)
	}
}

// P2.10: two of a kind that share a name can be read, but are not valid; what is of different kinds may share one.
func TestParseNames(t *testing.T) {
	const text = "place a\nplace b\nthing t at b states 2 start 0\nthing t at b states 3 start 0\nprop p gone if t=2\nplayers 1\ngoal\n"
	if _, line, e := room.Parse(text); line != 0 || e != api.ErrThing {
		t.Errorf("Parse: line %d, %d", line, e)
	}
	const shared = "place a\nplace b\nthing b at b states 2 start 0\nprop a at a\nprop b at b\nact a at b with b if b=1\nplayers 1\ngoal b=1\n"
	r, line, e := room.Parse(shared)
	want := api.Room{Places: []string{"a", "b"}, Things: []api.Thing{{Name: "b", Place: 1, States: 2}}, Props: []api.Prop{{Name: "a"}, {Name: "b", Place: 1}}, Acts: []api.Act{{Name: "a", Place: 1, Lock: -1, Uses: []int{1}, When: api.Cond{{State: 1}}}}, Players: 1, Goal: api.Cond{{State: 1}}}
	if !reflect.DeepEqual(r, want) || line != 0 || e != api.OK {
		t.Errorf("Parse = %+v, %d, %d", r, line, e)
	}
}

// P2.10: the limit of a text, in bytes, comes before its form.
func TestParseMany(t *testing.T) {
	long := strings.Repeat("place hall\n", api.MaxText/11+1)
	for _, c := range []struct {
		text string
		line int
		e    api.Errno
	}{
		{long[:api.MaxText], api.MaxText/11 + 1, api.ErrForm}, {long[:api.MaxText+1], 0, api.ErrMany}, {strings.Repeat("\xff", api.MaxText), 1, api.ErrForm}, {strings.Repeat("\xff", api.MaxText+1), 0, api.ErrMany},
		{strings.Repeat("place abcde\n", 5460) + "players 1\ngoal\n", 0, api.ErrMany},
	} {
		if _, line, e := room.Parse(c.text); line != c.line || e != c.e {
			t.Errorf("Parse of %d bytes: line %d, %d, want %d, %d", len(c.text), line, e, c.line, c.e)
		}
	}
	if _, line, e := room.Parse("place " + strings.Repeat("a", api.MaxText-6-16) + "\nplayers 1\ngoal\n"); line != 0 || e != api.ErrPlace {
		t.Errorf("Parse of %d bytes: line %d, %d", api.MaxText, line, e)
	}
}

// P2.11: how a room stands.
func TestShow(t *testing.T) {
	r := full()
	for _, c := range []struct {
		s    api.State
		want string
	}{
		{api.State{Things: []int{1, 5}, Props: []int{1, -1, -1, 0}, Players: []int{0, 0, 0, 0}}, "box=1 hall=5 key@vault box@gone c@gone d@hall 0@hall 1@hall 2@hall 3@hall"},
		{api.State{Things: []int{0, 3}, Props: []int{-2, -5, -3, 2}, Players: []int{2, 1, 0, 1}}, "box=0 hall=3 key@0 box@3 c@1 d@place 0@place 1@vault 2@hall 3@vault"},
	} {
		if s, e := room.Show(r, c.s); s != c.want || e != api.OK {
			t.Errorf("Show = %q, %d, want %q", s, e, c.want)
		}
	}
	if s, e := room.Show(api.Room{Places: []string{"p"}, Players: 1}, api.State{Players: []int{0}}); s != "0@p" || e != api.OK {
		t.Errorf("Show = %q, %d", s, e)
	}
}

// P2.12: any field makes rooms differ; nil and empty lists do not.
func TestSame(t *testing.T) {
	if !room.Same(full(), full()) || !room.Same(api.Room{}, api.Room{}) {
		t.Error("equal rooms are not the same")
	}
	empty := api.Room{Places: []string{}, Things: []api.Thing{}, Props: []api.Prop{}, Ways: []api.Way{}, Acts: []api.Act{}, Autos: []api.Auto{}, Goal: api.Cond{}}
	if !room.Same(api.Room{}, empty) {
		t.Error("nil and empty lists differ")
	}
	a := api.Room{Props: []api.Prop{{}}, Ways: []api.Way{{}}, Acts: []api.Act{{}}, Autos: []api.Auto{{}}}
	b := api.Room{Props: []api.Prop{{When: api.Cond{}}}, Ways: []api.Way{{When: api.Cond{}}}, Autos: []api.Auto{{When: api.Cond{}}}, Acts: []api.Act{{Uses: []int{}, When: api.Cond{}, Sets: []api.Set{}, Spends: []int{}, Brings: []int{}}}}
	if !room.Same(a, b) {
		t.Error("nil and empty lists of elements differ")
	}
	n := 0
	eachChange(reflect.ValueOf(full()), func(path string, change func(reflect.Value)) {
		n++
		r := full()
		change(reflect.ValueOf(&r).Elem())
		if room.Same(r, full()) || room.Same(full(), r) {
			t.Errorf("the same but for %s", path)
		}
	})
	if n < 100 {
		t.Errorf("only %d changes", n)
	}
}

// eachChange gives out a change of each number, text, bool and list of a value.
func eachChange(v reflect.Value, give func(path string, change func(reflect.Value))) {
	switch v.Kind() {
	case reflect.Struct:
		for i := range v.NumField() {
			eachChange(v.Field(i), func(path string, change func(reflect.Value)) {
				give(v.Type().Field(i).Name+"."+path, func(v reflect.Value) { change(v.Field(i)) })
			})
		}
	case reflect.Slice:
		for i := range v.Len() {
			eachChange(v.Index(i), func(path string, change func(reflect.Value)) {
				give(path, func(v reflect.Value) { change(v.Index(i)) })
			})
		}
		give("more", func(v reflect.Value) { v.Set(reflect.Append(v, reflect.Zero(v.Type().Elem()))) })
		if v.Len() > 0 {
			give("less", func(v reflect.Value) { v.Set(v.Slice(0, v.Len()-1)) })
		}
	case reflect.Int:
		give("int", func(v reflect.Value) { v.SetInt(v.Int() + 1) })
	case reflect.String:
		give("string", func(v reflect.Value) { v.SetString(v.String() + "x") })
	case reflect.Bool:
		give("bool", func(v reflect.Value) { v.SetBool(!v.Bool()) })
	}
}

// P2.16: Parse of Format is the same room.
func TestTextLaw(t *testing.T) {
	texts := map[string]api.Room{}
	trials(t, 400, func(t *testing.T, k maker, r api.Room) {
		text, e := room.Format(r)
		if e != api.OK || firstWrong(text) != 0 {
			t.Errorf("Format = %q, %d", text, e)
		}
		if back, line, e := room.Parse(text); !room.Same(back, r) || !room.Same(r, back) || line != 0 || e != api.OK {
			t.Errorf("Parse(%q) = %+v, %d, %d, want %+v", text, back, line, e, r)
		}
		if other, is := texts[text]; is && !room.Same(other, r) {
			t.Errorf("%q is the text of two rooms", text)
		}
		texts[text] = r
	})
}
