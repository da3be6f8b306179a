package language

import (
	"slices"
	"strconv"
	"strings"

	"padlock/api"
	"padlock/rules"
)

// maxDigits is how many digits the number of a state has.
const maxDigits = 2

// HasState reports whether one of some things has this number, and has this state.
func HasState(things []api.Thing, thing, state int) bool {
	return rules.IsOf(things, thing) && rules.Within(state, 0, things[thing].States-1)
}

// IsCond reports whether a condition about some things is valid.
func IsCond(things []api.Thing, c api.Cond) bool {
	wrong := func(l api.Lit) bool { return !HasState(things, l.Thing, l.State) }
	return len(c) <= api.MaxLits && !slices.ContainsFunc(c, wrong)
}

// ReadLit reads a literal about one of some things; the state need not be one of the thing.
func ReadLit(things []api.Thing, word string) (api.Lit, bool) {
	sign := strings.IndexAny(word, "=!")
	if sign < 0 {
		return api.Lit{}, false
	}
	thing := Find(things, word[:sign], NameOfThing)
	state, ok := rules.Number(word[sign+1:], maxDigits)
	if thing < 0 || !ok {
		return api.Lit{}, false
	}
	return api.Lit{Thing: thing, State: state, Not: word[sign] == '!'}, true
}

// WriteLit expects a literal about one of the things.
func WriteLit(things []api.Thing, l api.Lit) string {
	sign := "="
	if l.Not {
		sign = "!"
	}
	return things[l.Thing].Name + sign + strconv.Itoa(l.State)
}

// If returns the words that announce a condition and say it, or nothing for an empty one.
func If(things []api.Thing, c api.Cond) []string {
	return Behind("if", Each(c, func(l api.Lit) string { return WriteLit(things, l) }))
}
