package room

import (
	"slices"
	"strconv"
	"strings"

	"padlock/api"
)

// writer collects the lines of a valid room.
type writer struct {
	api.Room
	text strings.Builder
}

func write(r api.Room) string {
	w := writer{Room: r}
	for _, name := range w.Places {
		w.line([]string{"place", name})
	}
	for _, t := range w.Things {
		w.line([]string{"thing", t.Name}, w.at(t.Place), []string{"states", strconv.Itoa(t.States), "start", strconv.Itoa(t.Start)})
	}
	for _, p := range w.Props {
		w.line([]string{"prop", p.Name}, w.at(p.Place), w.when(p.When))
	}
	for _, x := range w.Ways {
		w.line([]string{"way", w.Places[x.A], w.Places[x.B]}, w.when(x.When))
	}
	for _, a := range w.Acts {
		w.line([]string{"act", a.Name}, w.at(a.Place), behindLock(a.Lock), behind("with", w.props(a.Uses)), w.when(a.When),
			behind("sets", each(a.Sets, w.set)), behind("spends", w.props(a.Spends)), behind("brings", w.props(a.Brings)))
	}
	for _, a := range w.Autos {
		w.line([]string{"auto", w.set(a.Set)}, w.when(a.When))
	}
	w.line([]string{"players", strconv.Itoa(w.Players)})
	w.line([]string{"goal"}, each(w.Goal, w.lit))
	return w.text.String()
}

// line writes a line that has all words of its parts.
func (w *writer) line(parts ...[]string) {
	w.text.WriteString(strings.Join(slices.Concat(parts...), " ") + "\n")
}

// each returns the words of the elements of a list.
func each[E any](list []E, word func(E) string) []string {
	var words []string
	for _, x := range list {
		words = append(words, word(x))
	}
	return words
}

// behind returns a word and what it announces, or nothing if there is nothing to be announced.
func behind(word string, list []string) []string {
	if len(list) == 0 {
		return nil
	}
	return append([]string{word}, list...)
}

func behindLock(lock int) []string {
	if lock < 0 {
		return nil
	}
	return []string{"lock", strconv.Itoa(lock)}
}

func (w *writer) at(place int) []string {
	if place == api.Gone {
		return []string{"gone"}
	}
	return []string{"at", w.Places[place]}
}

func (w *writer) when(c api.Cond) []string { return behind("if", each(c, w.lit)) }

func (w *writer) props(list []int) []string {
	return each(list, func(prop int) string { return w.Props[prop].Name })
}

func (w *writer) set(s api.Set) string { return w.Things[s.Thing].Name + "=" + strconv.Itoa(s.State) }

func (w *writer) lit(l api.Lit) string {
	sign := "="
	if l.Not {
		sign = "!"
	}
	return w.Things[l.Thing].Name + sign + strconv.Itoa(l.State)
}

// text returns a state as one line without a line feed.
func (p played) text() string {
	var words []string
	for i, state := range p.State.Things {
		words = append(words, p.Room.Things[i].Name+"="+strconv.Itoa(state))
	}
	for i, spot := range p.State.Props {
		words = append(words, p.Room.Props[i].Name+"@"+p.spot(spot))
	}
	for i, place := range p.State.Players {
		words = append(words, strconv.Itoa(i)+"@"+p.Places[place])
	}
	return strings.Join(words, " ")
}

// spot returns where a prop is.
func (p played) spot(spot int) string {
	switch {
	case spot == api.Gone:
		return "gone"
	case spot <= api.Held:
		return strconv.Itoa(api.Held - spot)
	}
	return p.Places[spot]
}
