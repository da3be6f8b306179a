package control

import (
	"slices"

	"padlock/api"
)

// word is what a door is told in a tick.
type word int

const (
	nothing word = iota
	open
	hold
)

// master is told by the sensors of a valid panel what they sense, and tells the doors what to do.
type master struct {
	api.Panel
	power  bool
	sensed []int // what each sensor senses
	values []int // what the master knows of each sensor
	ages   []int // how many ticks ago it has been told so
}

// moment is what a tick brings to the doors, and what the master knows in it.
type moment struct {
	power         bool
	values, ages  []int
	words         []word // what the master tells each door
	missed, stood []bool // for each door
}

// newMaster returns a master in the tick before the first one.
func newMaster(p api.Panel) master {
	return master{Panel: p, power: true, sensed: make([]int, p.Sensors), values: make([]int, p.Sensors), ages: make([]int, p.Sensors)}
}

// next plays the next tick, with the signals of it.
func (m *master) next(tick int, signals []api.Signal) moment {
	m.change(signals)
	m.listen(marked(signals, api.Muted, m.Sensors))
	return moment{
		power: m.power, values: slices.Clone(m.values), ages: slices.Clone(m.ages), words: m.words(tick),
		missed: marked(signals, api.Missed, len(m.Doors)), stood: marked(signals, api.Stood, len(m.Doors)),
	}
}

// change lets happen what stays so behind the tick.
func (m *master) change(signals []api.Signal) {
	for _, s := range signals {
		switch s.Kind {
		case api.Sensed:
			m.sensed[s.Number] = s.Value
		case api.Dark:
			m.power = false
		case api.Light:
			m.power = true
		}
	}
}

// marked returns for the numbers below n whether there is a signal of a kind with it.
func marked(signals []api.Signal, kind, n int) []bool {
	list := make([]bool, n)
	for _, s := range signals {
		if s.Kind == kind {
			list[s.Number] = true
		}
	}
	return list
}

// listen lets the sensors tell the master what they sense.
func (m *master) listen(muted []bool) {
	for i, value := range m.sensed {
		m.ages[i]++
		if m.power && !muted[i] {
			m.values[i], m.ages[i] = value, 0
		}
	}
}

// words returns what the master tells each door.
func (m *master) words(tick int) []word {
	list := make([]word, len(m.Doors))
	for i, g := range m.Doors {
		switch {
		case !m.power:
			list[i] = nothing
		case m.opens(g, tick):
			list[i] = open
		default:
			list[i] = hold
		}
	}
	return list
}

// opens reports whether the master decides to open a door.
func (m *master) opens(g api.Gate, tick int) bool {
	isStale := func(s api.Sense) bool { return m.ages[s.Sensor] >= m.Stale }
	fails := func(s api.Sense) bool { return (m.values[s.Sensor] == s.Value) == s.Not }
	return tick >= m.Limit || slices.ContainsFunc(g.When, isStale) || !slices.ContainsFunc(g.When, fails)
}
