package room

import (
	"padlock/api"
	"padlock/language"
	"padlock/rules"
)

// The parts of a text, in their order; each part has its lines.
const (
	placesPart = iota
	thingsPart
	propsPart
	waysPart
	actsPart
	autosPart
	playersPart
	goalPart
)

// misfit is what the reader of a line panics with if the line does not have the form of one that may stand there.
type misfit struct{}

// reader reads a room line by line.
type reader struct {
	api.Room
	part int
	line language.Line
}

// read reads a line, and reports whether it has the form of one that may stand there.
func (x *reader) read(text string) (is bool) {
	defer func() {
		// Nothing else panics here; if it did, the line would count as one that is not read, for Parse never panics.
		if _, wrong := recover().(misfit); wrong {
			is = false
		}
	}()
	line, ended := language.Split(text)
	need(ended)
	x.line = line
	x.element()
	need(len(x.line) == 0)
	return true
}

func need(is bool) {
	if !is {
		panic(misfit{})
	}
}

// enter goes on to the part that a line belongs to. There is just one line about players and one about the goal.
func (x *reader) enter(part int) {
	switch part {
	case goalPart:
		need(x.part == playersPart)
	case playersPart:
		need(x.part < playersPart)
	default:
		need(x.part <= part)
	}
	x.part = part
}

// element reads the element that a line describes.
func (x *reader) element() {
	switch x.word() {
	case "place":
		x.enter(placesPart)
		x.Places = append(x.Places, x.name())
	case "thing":
		x.enter(thingsPart)
		x.Things = append(x.Things, x.thing())
	case "prop":
		x.enter(propsPart)
		x.Props = append(x.Props, x.prop())
	case "way":
		x.enter(waysPart)
		x.Ways = append(x.Ways, api.Way{A: x.place(), B: x.place(), When: x.when()})
	case "act":
		x.enter(actsPart)
		x.Acts = append(x.Acts, x.act())
	case "auto":
		x.enter(autosPart)
		x.Autos = append(x.Autos, api.Auto{Set: x.set(), When: x.when()})
	case "players":
		x.enter(playersPart)
		x.Players = x.number()
	case "goal":
		x.enter(goalPart)
		if len(x.line) > 0 {
			x.Goal = fill(x, x.lit)
		}
	default:
		need(false)
	}
}

func (x *reader) thing() api.Thing {
	t := api.Thing{Name: x.name()}
	x.expect("at")
	t.Place = x.place()
	x.expect("states")
	t.States = x.number()
	x.expect("start")
	t.Start = x.number()
	return t
}

func (x *reader) prop() api.Prop {
	p := api.Prop{Name: x.name(), Place: api.Gone}
	if !x.line.Skip("gone") {
		x.expect("at")
		p.Place = x.place()
	}
	p.When = x.when()
	return p
}

func (x *reader) act() api.Act {
	a := api.Act{Name: x.name(), Lock: -1}
	x.expect("at")
	a.Place = x.place()
	if x.line.Skip("lock") {
		a.Lock = x.number()
	}
	a.Uses = behindWord(x, "with", x.known)
	a.When = x.when()
	a.Sets = behindWord(x, "sets", x.set)
	a.Spends = behindWord(x, "spends", x.known)
	a.Brings = behindWord(x, "brings", x.known)
	return a
}

func (x *reader) when() api.Cond { return behindWord(x, "if", x.lit) }

// behindWord reads the list that a word announces, if the word stands there.
func behindWord[E any](x *reader, word string, one func() E) []E {
	if !x.line.Skip(word) {
		return nil
	}
	return fill(x, one)
}

// fill reads a list of at least one element, up to a word that announces something else.
func fill[E any](x *reader, one func() E) []E {
	list := []E{one()}
	for x.line.GoesOn() {
		list = append(list, one())
	}
	return list
}

func (x *reader) word() string {
	word, ok := x.line.Next()
	need(ok)
	return word
}

func (x *reader) expect(word string) { need(x.line.Skip(word)) }

func (x *reader) name() string {
	word := x.word()
	need(language.IsWord(word))
	return word
}

func (x *reader) number() int {
	n, ok := rules.Number(x.word(), 2)
	need(ok)
	return n
}

func (x *reader) place() int { return numberOf(x.Places, x.word(), language.NameOfPlace) }

// known reads the name of a prop whose line stands before.
func (x *reader) known() int { return numberOf(x.Props, x.word(), nameOfProp) }

// numberOf returns the number of the element that a word names. All names that are read are names, and so is one that is found among them.
func numberOf[E any](list []E, word string, nameOf func(E) string) int {
	n := language.Find(list, word, nameOf)
	need(n >= 0)
	return n
}

func (x *reader) lit() api.Lit {
	l, ok := language.ReadLit(x.Things, x.word())
	need(ok)
	return l
}

func (x *reader) set() api.Set {
	l := x.lit()
	need(!l.Not)
	return api.Set{Thing: l.Thing, State: l.State}
}
