package control_test

import (
	"fmt"
	"math/rand/v2"
	"slices"
	"testing"

	"padlock/api"
	"padlock/control"
)

// This file says once more, in the plainest way, what the chapter says, so that the tests have something to compare with; and it makes plays.

// event is a panel with signals. What holds in a tick is looked up in the whole list again and again; nothing is carried from tick to tick.
type event struct {
	p api.Panel
	l []api.Signal
}

// has reports whether there is a signal of a kind in a tick.
func (v event) has(tick, kind, number int) bool {
	return slices.Contains(v.l, signal(tick, kind, number))
}

// last returns the last signal up to a tick that a function accepts.
func (v event) last(tick int, accepts func(api.Signal) bool) (s api.Signal, is bool) {
	for at := tick; at >= 0; at-- {
		for _, s := range slices.Backward(v.l) {
			if s.At == at && accepts(s) {
				return s, true
			}
		}
	}
	return s, false
}

func (v event) power(tick int) bool {
	s, is := v.last(tick, func(s api.Signal) bool { return s.Kind == api.Dark || s.Kind == api.Light })
	return !is || s.Kind == api.Light
}

// senses returns what a sensor senses.
func (v event) senses(tick, sensor int) int {
	s, _ := v.last(tick, func(s api.Signal) bool { return s.Kind == api.Sensed && s.Number == sensor })
	return s.Value
}

// told returns the last tick in which the master has been told something by a sensor.
func (v event) told(tick, sensor int) int {
	for tick >= 0 && (!v.power(tick) || v.has(tick, api.Muted, sensor)) {
		tick--
	}
	return tick
}

// holds reports whether the When of a door holds by what is known of the sensors.
func (v event) holds(door int, known func(sensor int) int) bool {
	for _, s := range v.p.Doors[door].When {
		if is := known(s.Sensor) == s.Value; is == s.Not {
			return false
		}
	}
	return true
}

// says returns what the master tells a door: "open", "hold", or nothing.
func (v event) says(tick, door int) string {
	if !v.power(tick) {
		return ""
	}
	for _, s := range v.p.Doors[door].When {
		if v.told(tick, s.Sensor) <= tick-v.p.Stale {
			return "open"
		}
	}
	known := func(sensor int) int { return v.senses(v.told(tick, sensor), sensor) }
	if tick >= v.p.Limit || v.holds(door, known) {
		return "open"
	}
	return "hold"
}

// hears returns what a door hears.
func (v event) hears(tick, door int) string {
	if v.has(tick, api.Missed, door) {
		return ""
	}
	return v.says(tick, door)
}

// wants reports whether a door wants to hold.
func (v event) wants(tick, door int) bool {
	for at := tick; at > tick-v.p.Doors[door].Wait && at >= 0; at-- {
		if heard := v.hears(at, door); heard == "open" || !v.power(at) {
			return false
		} else if heard == "hold" {
			return true
		}
	}
	return false
}

// shut reports whether a door is shut.
func (v event) shut(tick, door int) bool {
	return tick >= 0 && v.power(tick) && v.wants(tick, door) && (!v.has(tick, api.Stood, door) || v.shut(tick-1, door))
}

// rows returns which doors are shut in each tick.
func (v event) rows(ticks int) []int {
	list := make([]int, ticks)
	for tick := range list {
		for door := range v.p.Doors {
			if v.shut(tick, door) {
				list[tick] += 1 << door
			}
		}
	}
	return list
}

// lose returns the event with more losses.
func (v event) lose(door int, ticks []int) event {
	v.l = slices.Clone(v.l)
	for _, tick := range ticks {
		v.l = append(v.l, signal(tick, api.Missed, door))
	}
	return v
}

// cut tries all lists of losses, and returns the one that is meant.
func (v event) cut(ticks, door int) []int {
	var best []int
	found := false
	for set := range 1 << ticks {
		var list []int
		for tick := range ticks {
			if set>>tick&1 == 1 {
				list = append(list, tick)
			}
		}
		if v.lose(door, list).shut(ticks-1, door) {
			continue
		}
		if !found || isBetter(list, best) {
			best, found = list, true
		}
	}
	return best
}

// isBetter reports whether a list of losses comes before another one.
func isBetter(a, b []int) bool {
	return len(a) < len(b) || len(a) == len(b) && slices.Compare(a, b) < 0
}

// cutByWindows returns what cut returns, also in long plays: the door stops holding in some tick, and from then on somebody stands in it.
func (v event) cutByWindows(ticks, door int) []int {
	var best []int
	for stop := ticks - 1; ; stop-- {
		var list []int
		for at := stop; at > stop-v.p.Doors[door].Wait && at >= 0; at-- {
			if v.hears(at, door) == "open" || !v.power(at) {
				break
			} else if v.hears(at, door) == "hold" {
				list = append([]int{at}, list...)
			}
		}
		if stop == ticks-1 || isBetter(list, best) {
			best = list
		}
		if stop < 0 || !v.has(stop, api.Stood, door) {
			return best
		}
	}
}

// frees returns the tick behind all in which a door could be shut.
func (v event) frees() int {
	n := 0
	for _, g := range v.p.Doors {
		if len(g.When) > 0 && v.p.Limit+g.Wait-1 > n {
			n = v.p.Limit + g.Wait - 1
		}
	}
	return n
}

// safe returns the first tick and door where rows are wrong.
func (v event) safe(rows []int) (tick, door int) {
	for tick := range rows {
		for door, g := range v.p.Doors {
			held := false
			for at := max(0, tick-g.Wait+1); at <= tick; at++ {
				held = held || v.says(at, door) == "hold"
			}
			if rows[tick]&(1<<door) != 0 && (!v.power(tick) || tick >= v.frees() || !held) {
				return tick, door
			}
		}
	}
	return -1, -1
}

// maker makes things by chance, the same ones for the same seed.
type maker struct{ *rand.Rand }

// small makes a number from 1 on that is mostly small.
func (k maker) small() int { return 1 + min(k.IntN(6), k.IntN(6)) }

// panel makes a panel with sensors and doors; most of its doors should open by and by.
func (k maker) panel() api.Panel {
	p := api.Panel{Sensors: 1 + k.IntN(4), Stale: k.small(), Limit: 1 + k.IntN(20)}
	for range 1 + k.IntN(3) {
		g := api.Gate{Wait: k.small()}
		for range k.IntN(6) - 2 {
			g.When = append(g.When, api.Sense{Sensor: k.IntN(p.Sensors), Value: k.IntN(3), Not: k.IntN(3) == 0})
		}
		if len(g.When) == 0 && k.IntN(4) > 0 {
			g.When = []api.Sense{{Sensor: k.IntN(p.Sensors), Value: 1}}
		}
		p.Doors = append(p.Doors, g)
	}
	return p
}

// signals makes signals, many of them in some ticks in a row, in any order.
func (k maker) signals(p api.Panel, ticks int) []api.Signal {
	var l []api.Signal
	for range k.IntN(12) {
		if ticks == 0 {
			break
		}
		at, kind := k.IntN(ticks), 1+k.IntN(6)
		switch kind {
		case api.Sensed:
			l = append(l, sensed(at, k.IntN(p.Sensors), k.IntN(3)))
		case api.Dark:
			l = append(l, signal(at, kind, 0))
			if back := at + k.IntN(3); back < ticks {
				l = append(l, signal(back, api.Light, 0))
			}
		case api.Light:
			l = append(l, signal(at, kind, 0))
		case api.Muted:
			l = append(l, each(kind, k.IntN(p.Sensors), at, min(ticks-1, at+k.IntN(5)))...)
		default:
			l = append(l, each(kind, k.IntN(len(p.Doors)), at, min(ticks-1, at+k.IntN(5)))...)
		}
	}
	k.Shuffle(len(l), func(a, b int) { l[a], l[b] = l[b], l[a] })
	return l
}

// trials runs a test with many plays.
func trials(t *testing.T, n, longest int, test func(t *testing.T, k maker, v event, ticks int)) {
	t.Helper()
	for seed := range n {
		k := maker{rand.New(rand.NewPCG(uint64(seed), 8))}
		ticks := k.IntN(longest + 1)
		v := event{p: k.panel()}
		v.l = k.signals(v.p, ticks)
		if _, e := control.Play(v.p, ticks, v.l); e != api.OK {
			t.Fatalf("seed %d: %d ticks of %+v are not valid: %d", seed, ticks, v, e)
		}
		t.Run(fmt.Sprint(seed), func(t *testing.T) { test(t, k, v, ticks) })
	}
}
