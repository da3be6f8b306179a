package language

import (
	"strconv"
	"strings"

	"padlock/api"
	"padlock/rules"
)

// maxDigits is how many digits the number of a state has.
const maxDigits = 2

// ReadLit reads a literal about one of some things; the state need not be one of the thing.
func ReadLit(things []api.Thing, word string) (api.Lit, bool) {
	sign := strings.IndexAny(word, "=!")
	if sign < 0 {
		return api.Lit{}, false
	}
	thing := Find(things, word[:sign], NameOfThing)
	state, ok := rules.Number(word[sign+1:], maxDigits)
	if thing < 0 || !ok {
		return api.Lit{}, false
	}
	return api.Lit{Thing: thing, State: state, Not: word[sign] == '!'}, true
}

// WriteLit expects a literal about one of the things.
func WriteLit(things []api.Thing, l api.Lit) string {
	sign := "="
	if l.Not {
		sign = "!"
	}
	return things[l.Thing].Name + sign + strconv.Itoa(l.State)
}

// If returns the words that announce a condition and say it, or nothing for an empty one.
func If(things []api.Thing, c api.Cond) []string {
	return Behind("if", Each(c, func(l api.Lit) string { return WriteLit(things, l) }))
}
