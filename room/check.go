package room

import (
	"slices"

	"padlock/api"
	"padlock/rules"
)

// isOf reports whether a number is that of an element of a list.
func isOf[E any](list []E, n int) bool { return rules.Within(n, 0, len(list)-1) }

func tooMany(r api.Room) bool {
	return len(r.Places) > api.MaxPlaces || len(r.Things) > api.MaxThings || len(r.Props) > api.MaxProps ||
		len(r.Ways) > api.MaxWays || len(r.Acts) > api.MaxActs || len(r.Autos) > api.MaxAutos
}

func checkPlaces(r api.Room) api.Errno {
	for i := range r.Places {
		if !isNew(r.Places, i, nameOfPlace) {
			return api.ErrPlace
		}
	}
	return rules.Unless(len(r.Places) > 0, api.ErrPlace)
}

func checkThings(r api.Room) api.Errno {
	for i, t := range r.Things {
		if !isNew(r.Things, i, nameOfThing) || !isOf(r.Places, t.Place) ||
			!rules.Within(t.States, 2, api.MaxStates) || !rules.Within(t.Start, 0, t.States-1) {
			return api.ErrThing
		}
	}
	return api.OK
}

func checkProps(r api.Room) api.Errno {
	for i, p := range r.Props {
		if !isNew(r.Props, i, nameOfProp) || p.Place != api.Gone && !isOf(r.Places, p.Place) {
			return api.ErrProp
		}
		if e := checkCond(r, p.When); e != api.OK {
			return e
		}
	}
	return api.OK
}

func checkWays(r api.Room) api.Errno {
	for _, w := range r.Ways {
		if !isOf(r.Places, w.A) || !isOf(r.Places, w.B) || w.A == w.B {
			return api.ErrWay
		}
		if e := checkCond(r, w.When); e != api.OK {
			return e
		}
	}
	return api.OK
}

func checkActs(r api.Room) api.Errno {
	for i, a := range r.Acts {
		if !isNew(r.Acts, i, nameOfAct) || !isOf(r.Places, a.Place) || !rules.Within(a.Lock, -1, api.MaxLocks-1) ||
			!moveRightly(r, a) || !setRightly(r, a.Sets) {
			return api.ErrAct
		}
		if e := checkCond(r, a.When); e != api.OK {
			return e
		}
	}
	return api.OK
}

func checkAutos(r api.Room) api.Errno {
	for _, a := range r.Autos {
		if !hasState(r, a.Set.Thing, a.Set.State) {
			return api.ErrAuto
		}
		if e := checkCond(r, a.When); e != api.OK {
			return e
		}
	}
	return api.OK
}

func checkTeam(r api.Room) api.Errno {
	return rules.First(rules.Unless(rules.Within(r.Players, 1, api.MaxPlayers), api.ErrArg), checkCond(r, r.Goal))
}

// checkCond returns ErrCond unless a condition is valid.
func checkCond(r api.Room, c api.Cond) api.Errno {
	if len(c) > api.MaxLits {
		return api.ErrCond
	}
	for _, l := range c {
		if !hasState(r, l.Thing, l.State) {
			return api.ErrCond
		}
	}
	return api.OK
}

// hasState reports whether there is a thing with this number, and it has this state.
func hasState(r api.Room, thing, state int) bool {
	return isOf(r.Things, thing) && rules.Within(state, 0, r.Things[thing].States-1)
}

// moveRightly reports whether an act uses, spends and brings props as it may.
func moveRightly(r api.Room, a api.Act) bool {
	return ascend(r, a.Uses) && ascend(r, a.Spends) && ascend(r, a.Brings) &&
		!slices.ContainsFunc(a.Spends, func(p int) bool { return !slices.Contains(a.Uses, p) }) &&
		!slices.ContainsFunc(a.Brings, func(p int) bool { return slices.Contains(a.Uses, p) })
}

// ascend reports whether a list has strictly ascending numbers of props.
func ascend(r api.Room, props []int) bool {
	last := -1
	for _, p := range props {
		if p <= last || !isOf(r.Props, p) {
			return false
		}
		last = p
	}
	return true
}

// setRightly reports whether an act may set these things.
func setRightly(r api.Room, sets []api.Set) bool {
	if len(sets) > api.MaxSets {
		return false
	}
	for i, s := range sets {
		again := slices.ContainsFunc(sets[:i], func(t api.Set) bool { return t.Thing == s.Thing })
		if again || !hasState(r, s.Thing, s.State) {
			return false
		}
	}
	return true
}

// hasThings, hasProps and hasPlayers report whether a room can stand so.
func hasThings(r api.Room, states []int) bool {
	for i, state := range states {
		if !hasState(r, i, state) {
			return false
		}
	}
	return len(states) == len(r.Things)
}

func hasProps(r api.Room, spots []int) bool {
	for _, spot := range spots {
		if !isOf(r.Places, spot) && spot != api.Gone && !rules.Within(spot, api.Held-r.Players+1, api.Held) {
			return false
		}
	}
	return len(spots) == len(r.Props)
}

func hasPlayers(r api.Room, places []int) bool {
	for _, place := range places {
		if !isOf(r.Places, place) {
			return false
		}
	}
	return len(places) == r.Players
}
