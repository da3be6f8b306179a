package control

import (
	"slices"

	"padlock/api"
	"padlock/rules"
)

// play is a valid panel with what the ticks bring.
type play struct {
	api.Panel
	moments []moment
}

// stance is how a door stands in a tick. At first it is the zero value.
type stance struct {
	left int // in how many ticks the door wants to hold, this one among them, if it hears nothing more
	shut bool
}

// newPlay returns the error that all functions with signals return first, if there is one.
func newPlay(p api.Panel, ticks int, l []api.Signal) (play, api.Errno) {
	if e := rules.First(check(p), checkSignals(p, ticks, l)); e != api.OK {
		return play{}, e
	}
	byTick := make([][]api.Signal, ticks)
	for _, s := range l {
		byTick[s.At] = append(byTick[s.At], s)
	}
	y := play{Panel: p}
	m := newMaster(p)
	for tick, signals := range byTick {
		y.moments = append(y.moments, m.next(tick, signals))
	}
	return y, api.OK
}

// next returns how a door stands in a tick if it stood so in the tick before; what it is told can be lost beside what the signals say.
func (y play) next(s stance, door, tick int, lost bool) stance {
	m := y.moments[tick]
	heard := m.words[door]
	if lost || m.missed[door] {
		heard = nothing
	}
	switch {
	case !m.power || heard == open:
		s.left = 0
	case heard == hold:
		s.left = y.Doors[door].Wait
	default:
		s.left = max(s.left-1, 0)
	}
	s.shut = s.left > 0 && (s.shut || !m.stood[door])
	return s
}

// shut returns for each tick whether a door is shut.
func (y play) shut(door int) []bool {
	var s stance
	list := make([]bool, len(y.moments))
	for tick := range list {
		s = y.next(s, door, tick, false)
		list[tick] = s.shut
	}
	return list
}

// rows returns for each tick which doors are shut.
func (y play) rows() []int {
	list := make([]int, len(y.moments))
	for door := range y.Doors {
		for tick, is := range y.shut(door) {
			if is {
				list[tick] |= 1 << door
			}
		}
	}
	return list
}

// runs returns where something is first (-1: nowhere), and how often at the most without a break.
func runs(list []bool) (first, longest int) {
	n := 0
	for _, is := range list {
		if n++; !is {
			n = 0
		}
		longest = max(longest, n)
	}
	return slices.Index(list, true), longest
}

// wrong returns the first tick, and in it the first door, where rows say that it is shut and it may not be; -1 and -1 if there is none.
func (y play) wrong(rows []int) (tick, door int) {
	for tick, row := range rows {
		for door := range y.Doors {
			if row>>door&1 == 1 && !y.mayShut(tick, door) {
				return tick, door
			}
		}
	}
	return -1, -1
}

// mayShut reports whether a door may be shut in a tick, by what the master said, whether it was lost or not.
func (y play) mayShut(tick, door int) bool {
	last := y.moments[max(0, tick-y.Doors[door].Wait+1) : tick+1]
	isHeld := slices.ContainsFunc(last, func(m moment) bool { return m.words[door] == hold })
	return y.moments[tick].power && tick < frees(y.Panel) && isHeld
}
