package codes

import (
	"strconv"
	"strings"

	"padlock/api"
	"padlock/rules"
)

// write returns a valid clue as text.
func write(c api.Clue) string {
	s := shapes[c.Kind-1]
	text := s.word
	if c.Not {
		text = "not " + text
	}
	for _, letter := range s.numbers {
		text += " " + strconv.Itoa(*field(&c, letter))
	}
	if s.guess {
		text += " " + rules.FromDigits(c.Guess)
	}
	return text
}

// read returns the clue of a text, which need not be valid, and whether the text has the form of one.
func read(text string) (api.Clue, bool) {
	rest, not := strings.CutPrefix(text, "not ")
	words := strings.Split(rest, " ")
	for i, s := range shapes {
		if s.word == words[0] {
			c, ok := s.fill(words[1:])
			c.Kind, c.Not = i+1, not
			return c, ok
		}
	}
	return api.Clue{}, false
}

// fill reads the fields of a clue of this shape.
func (s shape) fill(words []string) (c api.Clue, ok bool) {
	n := len(s.numbers)
	if s.guess {
		n++
	}
	if len(words) != n {
		return api.Clue{}, false
	}
	for i, letter := range s.numbers {
		if *field(&c, letter), ok = rules.Number(words[i], 3); !ok {
			return api.Clue{}, false
		}
	}
	if s.guess {
		c.Guess, ok = rules.Digits(words[n-1], api.MaxWheels)
	}
	return c, ok
}
