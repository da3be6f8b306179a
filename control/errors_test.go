package control_test

import (
	"reflect"
	"slices"
	"testing"

	"padlock/api"
	"padlock/control"
)

// given is what functions are given behind a panel.
type given struct {
	ticks   int
	signals []api.Signal
	door    int
	rows    []int
}

// The functions in the order of calls; and those of them with ticks and signals, a door, rows.
var (
	called    = []string{"Check", "Play", "Knows", "Shuts", "Frees", "Tolerates", "Cut", "Safe"}
	withTicks = []string{"Play", "Knows", "Shuts", "Cut", "Safe"}
	withDoor  = []string{"Shuts", "Tolerates", "Cut"}
	withRows  = []string{"Safe"}
)

// calls returns the results of all functions.
func calls(p api.Panel, g given) [][]any {
	var all [][]any
	add := func(results ...any) { all = append(all, results) }
	add(control.Check(p))
	list, e := control.Play(p, g.ticks, g.signals)
	add(list, e)
	values, ages, e := control.Knows(p, g.ticks, g.signals)
	add(values, ages, e)
	a, b, e := control.Shuts(p, g.ticks, g.signals, g.door)
	add(a, b, e)
	a, e = control.Frees(p)
	add(a, e)
	a, e = control.Tolerates(p, g.door)
	add(a, e)
	list, e = control.Cut(p, g.ticks, g.signals, g.door)
	add(list, e)
	a, b, e = control.Safe(p, g.ticks, g.signals, g.rows)
	add(a, b, e)
	return all
}

// right is given without an error.
func right() given {
	return given{4, []api.Signal{sensed(2, 0, 1), signal(1, api.Stood, 0)}, 0, []int{1, 1, 0, 0}}
}

// wrong has an error in everything.
func wrong() given {
	return given{1001, []api.Signal{{}}, 2, []int{4}}
}

// isError reports whether results are an error, and nothing else.
func isError(results []any, e api.Errno) bool {
	last := len(results) - 1
	for _, x := range results[:last] {
		if !reflect.ValueOf(x).IsZero() {
			return false
		}
	}
	return results[last] == e
}

// expect tests that some functions return an error, and all others OK.
func expect(t *testing.T, what any, p api.Panel, g given, want api.Errno, names ...string) {
	t.Helper()
	for i, results := range calls(p, g) {
		if slices.Contains(names, called[i]) {
			if !isError(results, want) {
				t.Errorf("%v, %s: %v, want %d", what, called[i], results, want)
			}
		} else if e := results[len(results)-1]; e != api.OK {
			t.Errorf("%v, %s: %v", what, called[i], results)
		}
	}
}

// P8.1 and P8.2: panels that are not valid; this is the first error of all functions.
func TestPanels(t *testing.T) {
	expect(t, "right", panel(), right(), api.OK)
	for i, change := range []func(p *api.Panel){
		func(p *api.Panel) { *p = api.Panel{} },
		func(p *api.Panel) { p.Sensors = 0 }, func(p *api.Panel) { p.Sensors = -1 }, func(p *api.Panel) { p.Sensors = 13 }, func(p *api.Panel) { p.Sensors = least }, func(p *api.Panel) { p.Sensors = most },
		func(p *api.Panel) { p.Doors = nil; p.Sensors = -1 },
		func(p *api.Panel) { p.Stale = 0 }, func(p *api.Panel) { p.Stale = 51 }, func(p *api.Panel) { p.Stale = -1 }, func(p *api.Panel) { p.Stale = most },
		func(p *api.Panel) { p.Limit = 0 }, func(p *api.Panel) { p.Limit = 1001 }, func(p *api.Panel) { p.Limit = least }, func(p *api.Panel) { p.Limit = most },
		func(p *api.Panel) { p.Doors = slices.Repeat([]api.Gate{{Wait: 1}}, 9) }, func(p *api.Panel) { p.Doors[1] = api.Gate{} },
		func(p *api.Panel) { p.Doors[0].Wait = 0 }, func(p *api.Panel) { p.Doors[1].Wait = 51 }, func(p *api.Panel) { p.Doors[1].Wait = -1 }, func(p *api.Panel) { p.Doors[1].Wait = most },
		func(p *api.Panel) { p.Doors[1].When = make([]api.Sense, 9) },
		func(p *api.Panel) { p.Doors[0].When[0].Value = 10 }, func(p *api.Panel) { p.Doors[0].When[0].Value = -1 }, func(p *api.Panel) { p.Doors[0].When[0].Value = most },
		func(p *api.Panel) { p.Doors[0].When[0].Sensor = 2 }, func(p *api.Panel) { p.Doors[0].When[0].Sensor = -1 }, func(p *api.Panel) { p.Doors[0].When[0].Sensor = least },
		func(p *api.Panel) { p.Doors[1].When = []api.Sense{{}, {Sensor: 2, Not: true}} },
		func(p *api.Panel) { p.Doors[1].When = []api.Sense{{}, {Value: 10, Not: true}} },
	} {
		p := panel()
		change(&p)
		expect(t, i, p, right(), api.ErrControl, called...)
		expect(t, i, p, wrong(), api.ErrControl, called...)
	}
}

// P8.1 and P8.2: numbers of ticks; behind the panel, and before all that is wrong in the ticks.
func TestTicks(t *testing.T) {
	for _, ticks := range []int{-1, 1001, least, most} {
		g := right()
		g.ticks = ticks
		expect(t, ticks, panel(), g, api.ErrArg, withTicks...)
		g = wrong()
		g.ticks, g.door = ticks, 0
		expect(t, ticks, panel(), g, api.ErrArg, withTicks...)
	}
	g := right()
	g.ticks, g.rows = 1000, make([]int, 1000)
	expect(t, 1000, panel(), g, api.OK)
	// Without ticks there is nothing to lose.
	expect(t, "no ticks", panel(), given{}, api.ErrNone, "Cut")
	for _, door := range []int{-1, 2} {
		expect(t, "no ticks and no door", panel(), given{door: door}, api.ErrArg, withDoor...)
	}
	if _, e := control.Cut(panel(), 0, right().signals, 2); e != api.ErrEvent {
		t.Errorf("Cut of no ticks, with signals: %d", e)
	}
}

// P8.1 and P8.2: signals that are not valid, whatever stands before them.
func TestSignals(t *testing.T) {
	var l []api.Signal
	for _, kind := range []int{0, 7, -1, least, most} {
		l = append(l, signal(0, kind, 0))
	}
	for _, at := range []int{4, -1, least, most} {
		for kind := api.Sensed; kind <= api.Stood; kind++ {
			l = append(l, signal(at, kind, 0))
		}
	}
	for kind := api.Sensed; kind <= api.Stood; kind++ {
		for _, number := range []int{2, 3, -1, least, most} {
			l = append(l, signal(3, kind, number))
		}
		for _, value := range []int{10, -1, least, most} {
			l = append(l, api.Signal{At: 3, Kind: kind, Value: value})
		}
		if kind != api.Sensed {
			l = append(l, api.Signal{At: 3, Kind: kind, Value: 1})
		}
	}
	l = append(l, signal(3, api.Dark, 1), signal(3, api.Light, 1))
	for _, s := range l {
		g := right()
		g.signals = append(g.signals, s)
		expect(t, s, panel(), g, api.ErrEvent, withTicks...)
		// Behind them comes what is wrong with doors and rows.
		g.door, g.rows = 2, nil
		for i, results := range calls(panel(), g) {
			if slices.Contains(withTicks, called[i]) && !isError(results, api.ErrEvent) {
				t.Errorf("%v, %s: %v", s, called[i], results)
			}
		}
	}
	for _, s := range []api.Signal{sensed(0, 0, 0), sensed(3, 1, 9), signal(3, api.Muted, 1), signal(3, api.Missed, 1), signal(3, api.Stood, 1), signal(3, api.Dark, 0), signal(3, api.Light, 0)} {
		g := right()
		g.signals = slices.Repeat([]api.Signal{s}, 200)
		expect(t, s, panel(), g, api.OK)
		g.signals = append(g.signals, s)
		expect(t, s, panel(), g, api.ErrEvent, withTicks...)
	}
	// The numbers of sensors and of doors are not the same.
	p := panel()
	p.Sensors, p.Doors = 3, p.Doors[:1]
	g := right()
	g.signals = []api.Signal{sensed(0, 2, 1), signal(0, api.Muted, 2)}
	expect(t, "sensor 2", p, g, api.OK)
	for _, kind := range []int{api.Missed, api.Stood} {
		g.signals = []api.Signal{signal(0, kind, 1)}
		expect(t, kind, p, g, api.ErrEvent, withTicks...)
	}
	// In no ticks nothing happens.
	g = given{signals: []api.Signal{signal(0, api.Dark, 0)}}
	expect(t, "no ticks", panel(), g, api.ErrEvent, withTicks...)
}

// P8.1 and P8.2: doors that there are not.
func TestNoDoors(t *testing.T) {
	for _, door := range []int{2, 3, -1, least, most} {
		g := right()
		g.door = door
		expect(t, door, panel(), g, api.ErrArg, withDoor...)
	}
	g := given{ticks: 2, rows: []int{0, 0}}
	expect(t, "no door", api.Panel{Stale: 1, Limit: 1}, g, api.ErrArg, withDoor...)
}

// P8.2: rows that there cannot be.
func TestRows(t *testing.T) {
	for _, rows := range [][]int{nil, {0, 0, 0}, {0, 0, 0, 0, 0}, {0, 0, 0, 4}, {0, -1, 0, 0}, {1, 1, 1, most}, {2, least, 0, 0}} {
		g := right()
		g.rows = rows
		expect(t, rows, panel(), g, api.ErrArg, withRows...)
	}
	for _, rows := range [][]int{{0, 0, 0, 0}, {3, 3, 3, 3}} {
		g := right()
		g.rows = rows
		expect(t, rows, panel(), g, api.OK)
	}
	expect(t, "no doors", api.Panel{Stale: 1, Limit: 1}, given{ticks: 1, rows: []int{1}}, api.ErrArg, append(withDoor, withRows...)...)
}
