package language_test

import (
	"slices"
	"strings"
	"testing"

	"padlock/api"
	"padlock/language"
)

// P2.1: names have from 1 to 12 letters, and none of the words that have a meaning behind names.
func TestNames(t *testing.T) {
	long := strings.Repeat("a", 13)
	for s, want := range map[string][2]bool{
		"a": {true, true}, "abcdefghijkl": {true, true}, "place": {true, true}, "not": {true, true}, "ats": {true, true}, long: {false, true},
		"": {}, "A": {}, "a1": {}, "a b": {}, "a\n": {}, "\xff": {}, "at": {}, "states": {}, "start": {}, "gone": {}, "if": {}, "lock": {}, "with": {}, "sets": {}, "spends": {}, "brings": {},
	} {
		if is := language.IsName(s); is != want[0] {
			t.Errorf("IsName(%q) = %v", s, is)
		}
		if is := language.IsWord(s); is != want[1] {
			t.Errorf("IsWord(%q) = %v", s, is)
		}
	}
}

func TestFind(t *testing.T) {
	things := []api.Thing{{Name: "box"}, {Name: "if"}, {Name: "box"}, {Name: "door"}}
	for name, want := range map[string]int{"box": 0, "door": 3, "lamp": -1, "": -1} {
		if i := language.Find(things, name, language.NameOfThing); i != want {
			t.Errorf("Find(%q) = %d", name, i)
		}
	}
	for i, want := range []bool{true, false, false, true} {
		if is := language.IsNew(language.Each(things, language.NameOfThing), i); is != want {
			t.Errorf("IsNew(%d) = %v", i, is)
		}
	}
	if i := language.Find([]string{"hall", "vault"}, "vault", language.NameOfPlace); i != 1 {
		t.Errorf("Find of a place = %d", i)
	}
}

func TestLine(t *testing.T) {
	l, ended := language.Split("a if  b\n")
	if !ended || !slices.Equal(l, []string{"a", "if", "", "b"}) {
		t.Fatalf("Split = %q, %v", l, ended)
	}
	if !l.GoesOn() || l.Skip("if") {
		t.Errorf("before the first word: %q", l)
	}
	if word, ok := l.Next(); word != "a" || !ok || l.GoesOn() {
		t.Errorf("Next = %q, %v", word, ok)
	}
	if !l.Skip("if") || !l.GoesOn() || !l.Skip("") || !l.Skip("b") {
		t.Errorf("Skip stops at %q", l)
	}
	if word, ok := l.Next(); word != "" || ok || l.GoesOn() || l.Skip("") {
		t.Errorf("Next behind the last word = %q, %v", word, ok)
	}
	for text, words := range map[string]language.Line{"": {""}, " ": {"", ""}, "a\r": {"a\r"}} {
		if l, ended := language.Split(text); ended || !slices.Equal(l, words) {
			t.Errorf("Split(%q) = %q, %v", text, l, ended)
		}
	}
}

func TestLiterals(t *testing.T) {
	things := []api.Thing{{Name: "box", States: 2}, {Name: "door", States: 3}}
	for word, want := range map[string]api.Lit{"box=0": {}, "door=1": {Thing: 1, State: 1}, "door!99": {Thing: 1, State: 99, Not: true}} {
		l, ok := language.ReadLit(things, word)
		if l != want || !ok || language.WriteLit(things, l) != word {
			t.Errorf("ReadLit(%q) = %v, %v", word, l, ok)
		}
	}
	for _, word := range []string{"", "box", "=", "=1", "!1", "box=", "box=01", "box=100", "box=-1", "box!=1", "box=!1", "box==1", "box =1", "lamp=1", "Box=1", "box=1 "} {
		if l, ok := language.ReadLit(things, word); l != (api.Lit{}) || ok {
			t.Errorf("ReadLit(%q) = %v, %v", word, l, ok)
		}
	}
}

// P2.1: a condition has at most 8 literals, each with a thing and one of its states.
func TestConditions(t *testing.T) {
	things := []api.Thing{{Name: "box", States: 2}, {Name: "door", States: 3}}
	for _, c := range []struct {
		cond api.Cond
		want bool
	}{
		{nil, true}, {make(api.Cond, 8), true}, {make(api.Cond, 9), false},
		{api.Cond{{State: 1}, {Thing: 1, State: 2, Not: true}}, true}, {api.Cond{{State: 2}}, false}, {api.Cond{{}, {State: -1}}, false},
		{api.Cond{{}, {Thing: 1, State: 3, Not: true}}, false}, {api.Cond{{Thing: 2}, {}}, false}, {api.Cond{{Thing: -1}}, false},
	} {
		if is := language.IsCond(things, c.cond); is != c.want {
			t.Errorf("IsCond(%v) = %v", c.cond, is)
		}
	}
	if language.HasState(nil, 0, 0) || !language.HasState(things, 1, 2) || language.HasState(things, 0, 2) {
		t.Error("HasState")
	}
}

func TestWriting(t *testing.T) {
	things := []api.Thing{{Name: "box"}, {Name: "door"}}
	for _, c := range []struct {
		cond api.Cond
		want string
	}{{nil, "a\n"}, {api.Cond{}, "a\n"}, {api.Cond{{State: 1}}, "a if box=1\n"}, {api.Cond{{State: 1}, {Thing: 1, Not: true}}, "a if box=1 door!0\n"}} {
		if s := language.Join([]string{"a"}, language.If(things, c.cond)); s != c.want {
			t.Errorf("%v is written %q", c.cond, s)
		}
	}
}
