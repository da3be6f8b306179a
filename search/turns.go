package search

import (
	"padlock/api"
	"padlock/rules"
)

// checkSearch returns the first error of what a search is given.
func checkSearch(m model, mind api.Mind, most int) api.Errno {
	isMind := rules.Within(mind.Memory, 0, api.MaxMemory) && rules.Within(mind.Turn, 0, maxEdges-1)
	return rules.First(m.check(), rules.Unless(isMind && rules.Within(most, 0, api.MaxSteps), api.ErrArg))
}

// allSteps returns how many steps a player makes with each turn; ErrNone, behind the errors of what is given, if one of them does not lead to a finished position.
func allSteps(m model, memory, most int) ([]int, api.Errno) {
	if e := checkSearch(m, api.Mind{Memory: memory}, most); e != api.OK {
		return nil, e
	}
	list, done := m.steps(memory, most)
	return list, rules.Unless(done, api.ErrNone)
}

// turns returns how many turns there are.
func (m model) turns() int {
	n := 1
	for _, edges := range m.Edges {
		n = max(n, len(edges))
	}
	return n
}

// steps returns how many steps a player makes with each turn, and whether all of them lead to a finished position.
func (m model) steps(memory, most int) (list []int, done bool) {
	for turn := range m.turns() {
		trail, done := m.search(api.Mind{Memory: memory, Turn: turn}, most)
		if !done {
			return nil, false
		}
		list = append(list, len(trail))
	}
	return list, true
}

// needs returns the least memory with which all turns lead to a finished position; ErrNone if there is none.
func (m model) needs(most int) (int, api.Errno) {
	for memory := range api.MaxMemory + 1 {
		if _, done := m.steps(memory, most); done {
			return memory, api.OK
		}
	}
	return 0, api.ErrNone
}
