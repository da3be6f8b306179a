package room

import (
	"slices"

	"padlock/api"
	"padlock/language"
	"padlock/rules"
)

func tooMany(r api.Room) bool {
	return len(r.Places) > api.MaxPlaces || len(r.Things) > api.MaxThings || len(r.Props) > api.MaxProps ||
		len(r.Ways) > api.MaxWays || len(r.Acts) > api.MaxActs || len(r.Autos) > api.MaxAutos
}

func checkPlaces(r api.Room) api.Errno {
	for i := range r.Places {
		if !language.IsNew(r.Places, i) {
			return api.ErrPlace
		}
	}
	return rules.Unless(len(r.Places) > 0, api.ErrPlace)
}

func checkThings(r api.Room) api.Errno {
	names := language.Each(r.Things, language.NameOfThing)
	for i, t := range r.Things {
		if !language.IsNew(names, i) || !rules.IsOf(r.Places, t.Place) ||
			!rules.Within(t.States, 2, api.MaxStates) || !rules.Within(t.Start, 0, t.States-1) {
			return api.ErrThing
		}
	}
	return api.OK
}

func checkProps(r api.Room) api.Errno {
	names := language.Each(r.Props, nameOfProp)
	for i, p := range r.Props {
		if !language.IsNew(names, i) || p.Place != api.Gone && !rules.IsOf(r.Places, p.Place) {
			return api.ErrProp
		}
		if e := checkCond(r, p.When); e != api.OK {
			return e
		}
	}
	return api.OK
}

func checkWays(r api.Room) api.Errno {
	for _, w := range r.Ways {
		if !rules.IsOf(r.Places, w.A) || !rules.IsOf(r.Places, w.B) || w.A == w.B {
			return api.ErrWay
		}
		if e := checkCond(r, w.When); e != api.OK {
			return e
		}
	}
	return api.OK
}

func checkActs(r api.Room) api.Errno {
	names := language.Each(r.Acts, nameOfAct)
	for i, a := range r.Acts {
		if !language.IsNew(names, i) || !rules.IsOf(r.Places, a.Place) || !rules.Within(a.Lock, -1, api.MaxLocks-1) ||
			!moveRightly(r, a) || !setRightly(r, a.Sets) {
			return api.ErrAct
		}
		if e := checkCond(r, a.When); e != api.OK {
			return e
		}
	}
	return api.OK
}

func checkAutos(r api.Room) api.Errno {
	for _, a := range r.Autos {
		if !language.HasState(r.Things, a.Set.Thing, a.Set.State) {
			return api.ErrAuto
		}
		if e := checkCond(r, a.When); e != api.OK {
			return e
		}
	}
	return api.OK
}

func checkTeam(r api.Room) api.Errno {
	return rules.First(rules.Unless(rules.Within(r.Players, 1, api.MaxPlayers), api.ErrArg), checkCond(r, r.Goal))
}

// checkCond returns ErrCond unless a condition is valid.
func checkCond(r api.Room, c api.Cond) api.Errno {
	return rules.Unless(language.IsCond(r.Things, c), api.ErrCond)
}

// moveRightly reports whether an act uses, spends and brings props as it may.
func moveRightly(r api.Room, a api.Act) bool {
	return ascend(r, a.Uses) && ascend(r, a.Spends) && ascend(r, a.Brings) &&
		!slices.ContainsFunc(a.Spends, func(p int) bool { return !slices.Contains(a.Uses, p) }) &&
		!slices.ContainsFunc(a.Brings, func(p int) bool { return slices.Contains(a.Uses, p) })
}

// ascend reports whether a list has strictly ascending numbers of props.
func ascend(r api.Room, props []int) bool {
	last := -1
	for _, p := range props {
		if p <= last || !rules.IsOf(r.Props, p) {
			return false
		}
		last = p
	}
	return true
}

// setRightly reports whether an act may set these things.
func setRightly(r api.Room, sets []api.Set) bool {
	if len(sets) > api.MaxSets {
		return false
	}
	for i, s := range sets {
		again := slices.ContainsFunc(sets[:i], func(t api.Set) bool { return t.Thing == s.Thing })
		if again || !language.HasState(r.Things, s.Thing, s.State) {
			return false
		}
	}
	return true
}

// hasThings, hasProps and hasPlayers report whether a room can stand so.
func hasThings(r api.Room, states []int) bool {
	for i, state := range states {
		if !language.HasState(r.Things, i, state) {
			return false
		}
	}
	return len(states) == len(r.Things)
}

func hasProps(r api.Room, spots []int) bool {
	for _, spot := range spots {
		if !rules.IsOf(r.Places, spot) && spot != api.Gone && !rules.Within(spot, api.Held-r.Players+1, api.Held) {
			return false
		}
	}
	return len(spots) == len(r.Props)
}

func hasPlayers(r api.Room, places []int) bool {
	for _, place := range places {
		if !rules.IsOf(r.Places, place) {
			return false
		}
	}
	return len(places) == r.Players
}
