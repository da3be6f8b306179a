package puzzles

import (
	"slices"

	"padlock/api"
	"padlock/rules"
)

// gallery has some portraits, as many places, and what is said about them.
type gallery struct {
	portraits int
	sentences []api.Portrait
}

func (g gallery) check() api.Errno {
	return rules.First(
		rules.Unless(rules.Within(g.portraits, 1, api.MaxPeople), api.ErrArg),
		rules.Unless(len(g.sentences) <= api.MaxClues, api.ErrMany),
		rules.Unless(!slices.ContainsFunc(g.sentences, g.isNonsense), api.ErrCase))
}

// has reports whether there is a portrait with a number, or a place.
func (g gallery) has(n int) bool { return rules.Within(n, 0, g.portraits-1) }

// isNonsense reports whether a sentence is not valid.
func (g gallery) isNonsense(s api.Portrait) bool {
	two := g.has(s.A) && g.has(s.B) && s.A != s.B
	switch s.Kind {
	case api.Hangs:
		return !g.has(s.A) || s.B != 0 || !g.has(s.N)
	case api.Left, api.Beside:
		return !two || s.N != 0
	case api.Farther:
		return !two || !rules.Within(s.N, 0, g.portraits)
	}
	return true
}

// hangings yields the hangings in which all sentences hold, in order. It goes on with the list that it has yielded.
func (g gallery) hangings(yield func([]int) bool) {
	hanging := make([]int, 0, g.portraits)
	var try func() bool
	try = func() bool {
		if len(hanging) == g.portraits {
			return !g.isRight(hanging) || yield(hanging)
		}
		for portrait := range g.portraits {
			if slices.Contains(hanging, portrait) {
				continue
			}
			hanging = append(hanging, portrait)
			if !try() {
				return false
			}
			hanging = hanging[:len(hanging)-1]
		}
		return true
	}
	try()
}

// isRight reports whether all sentences hold.
func (g gallery) isRight(hanging []int) bool {
	return !slices.ContainsFunc(g.sentences, func(s api.Portrait) bool { return says(s, hanging) == s.Not })
}

// says reports whether a sentence holds, without regard to Not.
func says(s api.Portrait, hanging []int) bool {
	a, b := slices.Index(hanging, s.A), slices.Index(hanging, s.B)
	between := max(a, b) - min(a, b) - 1
	switch s.Kind {
	case api.Hangs:
		return a == s.N
	case api.Left:
		return a < b
	case api.Beside:
		return between == 0
	}
	return between >= s.N
}
