package play

import (
	"errors"
	"strings"

	"padlock/api"
	"padlock/codes"
	"padlock/language"
	"padlock/rules"
)

// What is wrong with a line is errForm, joined with all that is known of it.
var (
	errForm    = errors.New("the line does not have the form described, or may not stand there")
	errEnd     = errors.New("the line does not end with a line feed")
	errOrder   = errors.New("the line stands behind one that it may not follow")
	errWord    = errors.New("a word is missing, or does not have its form")
	errUnknown = errors.New("a word stands for nothing that was described before")
	errRest    = errors.New("there are more words than there may be")
	errMissing = errors.New("the line is missing")
)

// maxDigits is how many digits a number has.
const maxDigits = 3

// The parts of what follows the lines of the room, in their order; each part has its lines.
const (
	locksPart = iota
	notesPart
	triesPart
)

// reader reads what follows the lines of a valid room, line by line.
type reader struct {
	api.Game
	part  int
	line  language.Line
	wrong error // of the line; behind one that is wrong none is read
}

// roomText returns the beginning of a text that has the lines of the room.
func roomText(s string) string {
	end := 0
	for text := range strings.Lines(s) {
		end += len(text)
		if line, _ := language.Split(text); line[0] == "goal" {
			break
		}
	}
	return s[:end]
}

// readAll reads lines up to the first one that is wrong. It returns its number, and what is wrong with it.
func (x *reader) readAll(s string) (line int, wrong error) {
	for text := range strings.Lines(s) {
		line++
		if wrong := x.read(text); wrong != nil {
			return line, wrong
		}
	}
	if x.part != triesPart {
		return line + 1, errors.Join(errForm, errMissing)
	}
	return 0, nil
}

// read reads a line, and returns what is wrong with it.
func (x *reader) read(text string) error {
	line, ended := language.Split(text)
	x.line = line
	x.need(ended, errEnd)
	x.element()
	x.need(len(x.line) == 0, errRest)
	return x.wrong
}

// need notes what is wrong unless something is as it should be. The line is read on nevertheless, and what has been read of it does not count.
func (x *reader) need(is bool, wrong error) {
	if !is {
		x.wrong = errors.Join(errForm, x.wrong, wrong)
	}
}

// enter goes on to the part that a line belongs to. There is just one line about tries, the last one.
func (x *reader) enter(part int) {
	x.need(x.part <= part && x.part != triesPart, errOrder)
	x.part = part
}

// element reads what a line describes.
func (x *reader) element() {
	switch word := x.word(); word {
	case "codelock":
		x.enter(locksPart)
		x.codelock()
	case "note":
		x.enter(notesPart)
		x.Notes = append(x.Notes, x.note())
	case "tries":
		x.enter(triesPart)
		x.Tries = x.number()
	default:
		x.need(false, errWord)
	}
}

func (x *reader) codelock() {
	x.Locks = append(x.Locks, api.CodeLock{Wheels: x.number(), Symbols: x.number()})
	code, ok := rules.Digits(x.word(), api.MaxWheels)
	x.need(ok, errWord)
	x.Codes = append(x.Codes, code)
}

func (x *reader) note() api.Note {
	n := api.Note{Name: x.word(), Lock: -1}
	x.need(language.IsWord(n.Name), errWord)
	x.need(x.line.Skip("at"), errWord)
	n.Place = language.Find(x.Room.Places, x.word(), language.NameOfPlace)
	x.need(n.Place >= 0, errUnknown)
	if x.line.Skip("if") {
		n.When = x.cond()
	}
	if x.line.Skip("lock") {
		n.Lock = x.number()
		n.Clue = x.clue(n.Lock)
	}
	return n
}

// cond reads a condition that is not empty.
func (x *reader) cond() api.Cond {
	c := api.Cond{x.lit()}
	for x.line.GoesOn() {
		c = append(c, x.lit())
	}
	return c
}

func (x *reader) lit() api.Lit {
	l, ok := language.ReadLit(x.Room.Things, x.word())
	x.need(ok, errWord)
	return l
}

// clue reads a clue about a lock, to the end of the line.
func (x *reader) clue(lock int) (c api.Clue) {
	if !rules.IsOf(x.Locks, lock) {
		x.need(false, errUnknown)
		return api.Clue{}
	}
	c, e := codes.Parse(x.Locks[lock], strings.Join(x.line, " "))
	x.need(e == api.OK, errWord)
	x.line = nil
	return c
}

func (x *reader) word() string {
	word, ok := x.line.Next()
	x.need(ok, errWord)
	return word
}

func (x *reader) number() int {
	n, ok := rules.Number(x.word(), maxDigits)
	x.need(ok, errWord)
	return n
}
