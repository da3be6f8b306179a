package search

// ways are how positions are reached from one of them, where the ways start: for each the last link of a shortest way to it.
type ways map[int]link

// waysFrom has only the position where they start.
func waysFrom(start int) ways { return ways{start: {}} }

// spread makes the ways longer by each edge that leads from one of some positions to a new one. It returns the new positions. Of equally short ways those stay that come first, and these have the lowest edges if the positions are in the order in which spread has returned them.
func (w ways) spread(m model, from []int) []int {
	var list []int
	for _, position := range from {
		for edge, e := range m.Edges[position] {
			if _, known := w[e.To]; !known {
				w[e.To] = link{position, edge}
				list = append(list, e.To)
			}
		}
	}
	return list
}

// edges returns the edges of the way from where the ways start to another position.
func (w ways) edges(start, end int) []int {
	if start == end {
		return nil
	}
	last := w[end]
	return append(w.edges(start, last.position), last.edge)
}
