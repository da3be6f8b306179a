package search

import "slices"

// memory is what a player remembers: the links that were gone, the one that was gone last at the end of the list. To ask the map takes less time than to look through the list.
type memory struct {
	list []link
	has  map[link]bool
}

// add makes a link the last one, and forgets the first one if there are more than most then.
func (m *memory) add(l link, most int) {
	if m.has[l] {
		m.list = slices.DeleteFunc(m.list, func(other link) bool { return other == l })
	}
	m.list = append(m.list, l)
	m.has[l] = true
	if len(m.list) > most {
		delete(m.has, m.list[0])
		m.list = m.list[1:]
	}
}

// first returns the edge of a position that stands first; there has to be one.
func (m *memory) first(position int) int {
	i := slices.IndexFunc(m.list, func(l link) bool { return l.position == position })
	return m.list[i].edge
}
