package room

import (
	"slices"

	"padlock/api"
	"padlock/rules"
)

// played is a valid room in a state of its own. Both have things, props and players, which so have to be said with the one they belong to; the methods that change the state write into its lists.
type played struct {
	api.Room
	api.State
}

func clone(s api.State) api.State {
	return api.State{Things: slices.Clone(s.Things), Props: slices.Clone(s.Props), Players: slices.Clone(s.Players)}
}

// start returns how a room stands before anything settles.
func start(r api.Room) api.State {
	s := api.State{Players: make([]int, r.Players)}
	for _, t := range r.Things {
		s.Things = append(s.Things, t.Start)
	}
	for _, p := range r.Props {
		s.Props = append(s.Props, p.Place)
	}
	return s
}

func (p played) holds(c api.Cond) bool {
	for _, l := range c {
		if (p.State.Things[l.Thing] == l.State) == l.Not {
			return false
		}
	}
	return true
}

func (p played) set(s api.Set) { p.State.Things[s.Thing] = s.State }

// due returns the first auto that has something to set, or -1.
func (p played) due() int {
	return slices.IndexFunc(p.Autos, func(a api.Auto) bool {
		return p.State.Things[a.Set.Thing] != a.Set.State && p.holds(a.When)
	})
}

// settle returns ErrAuto if the state does not settle.
func (p played) settle() api.Errno {
	for range api.MaxSettle {
		i := p.due()
		if i < 0 {
			return api.OK
		}
		p.set(p.Autos[i].Set)
	}
	return rules.Unless(p.due() < 0, api.ErrAuto)
}

// settled settles a state that nobody else has, and returns it.
func settled(p played) (api.State, api.Errno) {
	if e := p.settle(); e != api.OK {
		return api.State{}, e
	}
	return p.State, api.OK
}

func (p played) hasPlayer(n int) bool { return rules.IsOf(p.State.Players, n) }

// count returns how many numbers the moves of a kind may have.
func (p played) count(kind int) int {
	switch kind {
	case api.Go:
		return len(p.Ways)
	case api.Take, api.Drop:
		return len(p.Room.Props)
	case api.Do:
		return len(p.Acts)
	}
	return 0
}

// moves yields all moves that there might be, in order.
func (p played) moves(yield func(api.Move) bool) {
	for player := range p.Room.Players {
		for kind := api.Go; kind <= api.Do; kind++ {
			for number := range p.count(kind) {
				if !yield(api.Move{Player: player, Kind: kind, Number: number}) {
					return
				}
			}
		}
	}
}

// legal takes any move.
func (p played) legal(m api.Move) bool {
	if !p.hasPlayer(m.Player) || !rules.Within(m.Number, 0, p.count(m.Kind)-1) {
		return false
	}
	here := p.State.Players[m.Player]
	switch m.Kind {
	case api.Go:
		w := p.Ways[m.Number]
		return (here == w.A || here == w.B) && p.holds(w.When)
	case api.Take:
		return p.lies(m.Number, here) && p.inHand(m.Player) < api.MaxHand
	case api.Drop:
		return p.has(m.Player, m.Number)
	}
	a := p.Acts[m.Number]
	return here == a.Place && p.holds(a.When) && p.canUse(m.Player, a)
}

// step plays a move.
func (p played) step(m api.Move) api.Errno {
	if !p.legal(m) {
		return api.ErrMove
	}
	here := p.State.Players[m.Player]
	switch m.Kind {
	case api.Go:
		p.State.Players[m.Player] = otherEnd(p.Ways[m.Number], here)
	case api.Take:
		p.State.Props[m.Number] = hand(m.Player)
	case api.Drop:
		p.State.Props[m.Number] = here
	case api.Do:
		p.do(m.Player, p.Acts[m.Number])
	}
	return p.settle()
}

// otherEnd returns where one is who has gone a way from one of its ends.
func otherEnd(w api.Way, here int) int {
	if here == w.A {
		return w.B
	}
	return w.A
}

func (p played) do(player int, a api.Act) {
	for _, prop := range a.Spends {
		p.State.Props[prop] = api.Gone
	}
	for _, prop := range a.Brings {
		p.State.Props[prop] = hand(player)
	}
	for _, s := range a.Sets {
		p.set(s)
	}
}

// hand is where a prop is that a player has in the hand.
func hand(player int) int { return api.Held - player }

func (p played) has(player, prop int) bool { return p.State.Props[prop] == hand(player) }

// inHand returns how many props a player has in the hand.
func (p played) inHand(player int) int {
	return len(rules.Numbers(len(p.State.Props), func(prop int) bool { return p.has(player, prop) }))
}

// lies reports whether a prop lies at a place so that it can be seen and taken.
func (p played) lies(prop, place int) bool {
	return p.State.Props[prop] == place && p.holds(p.Room.Props[prop].When)
}

// shows reports whether a prop can be seen at a place, be it in a hand.
func (p played) shows(prop, place int) bool {
	holder := api.Held - p.State.Props[prop]
	return p.lies(prop, place) || p.hasPlayer(holder) && p.State.Players[holder] == place
}

// canUse reports whether a player has the props that an act needs, and can hold what it brings.
func (p played) canUse(player int, a api.Act) bool {
	for _, prop := range a.Uses {
		if !p.has(player, prop) {
			return false
		}
	}
	for _, prop := range a.Brings {
		if p.State.Props[prop] != api.Gone {
			return false
		}
	}
	return p.inHand(player)-len(a.Spends)+len(a.Brings) <= api.MaxHand
}
