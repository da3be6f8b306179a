package room

import (
	"strconv"
	"strings"

	"padlock/api"
	"padlock/language"
)

// writer collects the lines of a valid room.
type writer struct {
	api.Room
	text strings.Builder
}

func write(r api.Room) string {
	w := writer{Room: r}
	for _, name := range w.Places {
		w.line([]string{"place", name})
	}
	for _, t := range w.Things {
		w.line([]string{"thing", t.Name}, w.at(t.Place), []string{"states", strconv.Itoa(t.States), "start", strconv.Itoa(t.Start)})
	}
	for _, p := range w.Props {
		w.line([]string{"prop", p.Name}, w.at(p.Place), w.when(p.When))
	}
	for _, x := range w.Ways {
		w.line([]string{"way", w.Places[x.A], w.Places[x.B]}, w.when(x.When))
	}
	for _, a := range w.Acts {
		w.line([]string{"act", a.Name}, w.at(a.Place), behindLock(a.Lock), language.Behind("with", w.props(a.Uses)), w.when(a.When),
			language.Behind("sets", language.Each(a.Sets, w.set)), language.Behind("spends", w.props(a.Spends)), language.Behind("brings", w.props(a.Brings)))
	}
	for _, a := range w.Autos {
		w.line([]string{"auto", w.set(a.Set)}, w.when(a.When))
	}
	w.line([]string{"players", strconv.Itoa(w.Players)})
	w.line([]string{"goal"}, language.Each(w.Goal, w.lit))
	return w.text.String()
}

// line writes a line that has all words of its parts.
func (w *writer) line(parts ...[]string) {
	w.text.WriteString(language.Join(parts...))
}

func behindLock(lock int) []string {
	if lock < 0 {
		return nil
	}
	return []string{"lock", strconv.Itoa(lock)}
}

func (w *writer) at(place int) []string {
	if place == api.Gone {
		return []string{"gone"}
	}
	return []string{"at", w.Places[place]}
}

func (w *writer) when(c api.Cond) []string { return language.If(w.Things, c) }

func (w *writer) props(list []int) []string {
	return language.Each(list, func(prop int) string { return w.Props[prop].Name })
}

func (w *writer) set(s api.Set) string { return w.lit(api.Lit{Thing: s.Thing, State: s.State}) }

func (w *writer) lit(l api.Lit) string { return language.WriteLit(w.Things, l) }

// text returns a state as one line without a line feed.
func (p played) text() string {
	var words []string
	for i, state := range p.State.Things {
		words = append(words, p.Room.Things[i].Name+"="+strconv.Itoa(state))
	}
	for i, spot := range p.State.Props {
		words = append(words, p.Room.Props[i].Name+"@"+p.spot(spot))
	}
	for i, place := range p.State.Players {
		words = append(words, strconv.Itoa(i)+"@"+p.Places[place])
	}
	return strings.Join(words, " ")
}

// spot returns where a prop is.
func (p played) spot(spot int) string {
	switch {
	case spot == api.Gone:
		return "gone"
	case spot <= api.Held:
		return strconv.Itoa(api.Held - spot)
	}
	return p.Places[spot]
}
