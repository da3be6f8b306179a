package control

import (
	"slices"

	"padlock/api"
	"padlock/rules"
)

// maxSensed is the greatest value that can be sensed.
const maxSensed = 9

// check returns ErrControl unless a panel is valid.
func check(p api.Panel) api.Errno {
	is := rules.Within(p.Sensors, 0, api.MaxSensors) && hasGates(p) &&
		rules.Within(p.Stale, 1, api.MaxWait) && rules.Within(p.Limit, 1, api.MaxTicks)
	return rules.Unless(is, api.ErrControl)
}

func hasGates(p api.Panel) bool {
	isWrong := func(g api.Gate) bool { return !isGate(p, g) }
	return len(p.Doors) <= api.MaxDoors && !slices.ContainsFunc(p.Doors, isWrong)
}

func isGate(p api.Panel, g api.Gate) bool {
	isWrong := func(s api.Sense) bool { return !isSensor(p, s.Sensor) || !isSensed(s.Value) }
	return rules.Within(g.Wait, 1, api.MaxWait) && len(g.When) <= api.MaxLits && !slices.ContainsFunc(g.When, isWrong)
}

func isSensor(p api.Panel, n int) bool { return rules.Within(n, 0, p.Sensors-1) }

func isSensed(value int) bool { return rules.Within(value, 0, maxSensed) }

// checkSignals returns the first error of a number of ticks and of what happens in them.
func checkSignals(p api.Panel, ticks int, l []api.Signal) api.Errno {
	isWrong := func(s api.Signal) bool { return !rules.Within(s.At, 0, ticks-1) || !isSignal(p, s) }
	if !rules.Within(ticks, 0, api.MaxTicks) {
		return api.ErrArg
	}
	return rules.Unless(len(l) <= api.MaxSignals && !slices.ContainsFunc(l, isWrong), api.ErrEvent)
}

// isSignal reports whether a signal is valid in any tick.
func isSignal(p api.Panel, s api.Signal) bool {
	switch s.Kind {
	case api.Sensed:
		return isSensor(p, s.Number) && isSensed(s.Value)
	case api.Muted:
		return isSensor(p, s.Number) && s.Value == 0
	case api.Missed, api.Stood:
		return rules.IsOf(p.Doors, s.Number) && s.Value == 0
	case api.Dark, api.Light:
		return s.Number == 0 && s.Value == 0
	}
	return false
}

func checkDoor(p api.Panel, door int) api.Errno {
	return rules.Unless(rules.IsOf(p.Doors, door), api.ErrArg)
}

// checkRows returns ErrArg unless there is a row for each tick, with no other doors than those of a panel.
func checkRows(p api.Panel, ticks int, rows []int) api.Errno {
	is := len(rows) == ticks && rules.AllWithin(rows, 0, 1<<len(p.Doors)-1)
	return rules.Unless(is, api.ErrArg)
}

// frees returns the tick from which on no door of a valid panel is ever shut.
func frees(p api.Panel) int {
	n := 0
	for _, g := range p.Doors {
		if len(g.When) > 0 {
			n = max(n, p.Limit+g.Wait-1)
		}
	}
	return n
}
