package control_test

import (
	"fmt"
	"reflect"
	"slices"
	"testing"

	"padlock/api"
	"padlock/control"
)

const (
	least = -1 << 63
	most  = 1<<63 - 1
)

// panel is that of the chapter's examples.
func panel() api.Panel {
	return api.Panel{Sensors: 2, Doors: []api.Gate{{Wait: 3, When: []api.Sense{{Value: 1}}}, {Wait: 1}}, Stale: 2, Limit: 8}
}

// gate is a panel with one sensor and one door, which should open if the sensor senses 1.
func gate(wait, stale, limit int) api.Panel {
	return api.Panel{Sensors: 1, Doors: []api.Gate{{Wait: wait, When: []api.Sense{{Value: 1}}}}, Stale: stale, Limit: limit}
}

// full has as much of everything as a panel can have.
func full() api.Panel {
	when := slices.Repeat([]api.Sense{{Sensor: 11, Value: 9}}, 8)
	return api.Panel{Sensors: 12, Doors: slices.Repeat([]api.Gate{{Wait: 50, When: when}}, 8), Stale: 50, Limit: 1000}
}

// each returns a signal in each of the ticks from one to another.
func each(kind, number, from, to int) []api.Signal {
	var l []api.Signal
	for at := from; at <= to; at++ {
		l = append(l, api.Signal{At: at, Kind: kind, Number: number})
	}
	return l
}

func sensed(at, number, value int) api.Signal {
	return api.Signal{At: at, Kind: api.Sensed, Number: number, Value: value}
}

func signal(at, kind, number int) api.Signal {
	return api.Signal{At: at, Kind: kind, Number: number}
}

// P8.1: what is valid.
func TestCheck(t *testing.T) {
	for i, p := range []api.Panel{
		panel(), full(), gate(1, 1, 1), {Stale: 1, Limit: 1}, {Stale: 50, Limit: 1000, Doors: make([]api.Gate, 0)},
		{Doors: []api.Gate{{Wait: 50}}, Stale: 1, Limit: 1},
		{Sensors: 12, Doors: []api.Gate{{Wait: 1, When: []api.Sense{{Not: true}, {Value: 9}, {Value: 9, Not: true}}}}, Stale: 1, Limit: 1},
	} {
		if e := control.Check(p); e != api.OK {
			t.Errorf("%d: %d", i, e)
		}
	}
}

// P8.1: the examples of the chapter, and what the words of its steps say.
func TestPlay(t *testing.T) {
	never := api.Panel{Sensors: 1, Doors: []api.Gate{{Wait: 2, When: []api.Sense{{Value: 1}, {Value: 2}}}}, Stale: 50, Limit: 1000}
	not := api.Panel{Sensors: 2, Doors: []api.Gate{{Wait: 1, When: []api.Sense{{Value: 3, Not: true}, {Sensor: 1, Value: 4}}}}, Stale: 1, Limit: 100}
	for i, c := range []struct {
		p     api.Panel
		ticks int
		l     []api.Signal
		want  []int
	}{
		{panel(), 4, nil, []int{1, 1, 1, 1}},
		{panel(), 4, []api.Signal{sensed(2, 0, 1)}, []int{1, 1, 0, 0}},
		{panel(), 4, append(each(api.Missed, 0, 2, 3), sensed(2, 0, 1)), []int{1, 1, 1, 1}},
		{panel(), 6, each(api.Muted, 0, 0, 5), []int{1, 0, 0, 0, 0, 0}},
		{panel(), 5, []api.Signal{signal(1, api.Dark, 0), signal(3, api.Light, 0), signal(3, api.Stood, 0)}, []int{1, 0, 0, 0, 1}},
		{panel(), 10, each(api.Missed, 0, 8, 9), slices.Repeat([]int{1}, 10)},
		// No ticks, and no doors.
		{panel(), 0, nil, nil},
		{api.Panel{Sensors: 1, Stale: 1, Limit: 1}, 3, []api.Signal{sensed(0, 0, 1)}, []int{0, 0, 0}},
		// The limit, and the wait behind it.
		{panel(), 9, nil, []int{1, 1, 1, 1, 1, 1, 1, 1, 0}},
		{panel(), 12, each(api.Missed, 0, 8, 11), []int{1, 1, 1, 1, 1, 1, 1, 1, 1, 1, 0, 0}},
		{gate(1, 1, 1), 3, nil, []int{1, 0, 0}},
		{gate(1, 1, 1), 3, each(api.Missed, 0, 1, 2), []int{1, 0, 0}},
		{gate(1, 1, 2), 3, each(api.Missed, 0, 1, 1), []int{1, 0, 0}},
		// A lost word to open, and one that is heard: the door does not hold any more, although its wait is not over.
		{gate(4, 1, 99), 6, []api.Signal{sensed(1, 0, 1), signal(1, api.Missed, 0), sensed(2, 0, 0), signal(2, api.Missed, 0)}, []int{1, 1, 1, 1, 1, 1}},
		{gate(4, 1, 99), 5, append(each(api.Missed, 0, 2, 4), sensed(1, 0, 1), sensed(2, 0, 0)), []int{1, 0, 0, 0, 0}},
		// The last word to hold counts, not the first one.
		{gate(2, 1, 99), 5, []api.Signal{signal(1, api.Missed, 0), signal(3, api.Missed, 0), signal(4, api.Missed, 0)}, []int{1, 1, 1, 1, 0}},
		// Signals happen in the order of the list, also if other ticks are between them.
		{gate(1, 1, 99), 2, []api.Signal{sensed(1, 0, 0), sensed(0, 0, 1), sensed(0, 0, 0), sensed(1, 0, 1)}, []int{1, 0}},
		{gate(1, 1, 99), 2, []api.Signal{sensed(0, 0, 0), sensed(0, 0, 1), sensed(1, 0, 1), sensed(1, 0, 0)}, []int{0, 1}},
		{gate(3, 1, 99), 3, []api.Signal{signal(1, api.Dark, 0), signal(1, api.Light, 0), signal(1, api.Missed, 0)}, []int{1, 1, 1}},
		{gate(3, 1, 99), 3, []api.Signal{signal(1, api.Light, 0), signal(1, api.Dark, 0)}, []int{1, 0, 0}},
		// What was told before the power failed counts no more, and what the sensors told goes stale.
		{gate(9, 1, 99), 4, []api.Signal{signal(1, api.Dark, 0), signal(2, api.Light, 0), signal(2, api.Missed, 0)}, []int{1, 0, 0, 1}},
		{gate(1, 3, 99), 6, append(each(api.Muted, 0, 2, 5), signal(1, api.Dark, 0), signal(2, api.Light, 0)), []int{1, 0, 1, 0, 0, 0}},
		// It is the tick that is muted, whatever is sensed in it.
		{gate(1, 4, 99), 5, []api.Signal{signal(1, api.Muted, 0), sensed(1, 0, 1), sensed(3, 0, 0), signal(3, api.Muted, 0)}, []int{1, 1, 0, 0, 1}},
		// Doors with several literals.
		{never, 3, []api.Signal{sensed(1, 0, 1), sensed(2, 0, 2)}, []int{1, 1, 1}},
		{not, 5, []api.Signal{sensed(1, 1, 4), sensed(2, 0, 3), sensed(3, 0, 9), sensed(4, 1, 5)}, []int{1, 0, 1, 0, 1}},
		{not, 3, []api.Signal{signal(1, api.Muted, 0), signal(2, api.Muted, 1)}, []int{1, 0, 0}},
		// A sensor that no literal of the door asks for does not count.
		{panel(), 3, each(api.Muted, 1, 0, 2), []int{1, 1, 1}},
		// Somebody in a door.
		{panel(), 3, each(api.Stood, 0, 0, 1), []int{0, 0, 1}},
		{panel(), 3, each(api.Stood, 0, 1, 2), []int{1, 1, 1}},
		{panel(), 3, each(api.Stood, 1, 0, 2), []int{1, 1, 1}},
		{panel(), 5, append(each(api.Stood, 0, 1, 3), sensed(1, 0, 1), sensed(2, 0, 0)), []int{1, 0, 0, 0, 1}},
		{gate(1, 1, 99), 5, append(each(api.Stood, 0, 2, 3), signal(2, api.Missed, 0)), []int{1, 1, 0, 0, 1}},
		// One signal twice is as one.
		{panel(), 3, append(each(api.Stood, 0, 0, 1), each(api.Stood, 0, 0, 1)...), []int{0, 0, 1}},
	} {
		if rows, e := control.Play(c.p, c.ticks, c.l); !slices.Equal(rows, c.want) || e != api.OK {
			t.Errorf("%d: %v, %d, want %v", i, rows, e, c.want)
		}
	}
}

// P8.1: each door has its bit.
func TestDoors(t *testing.T) {
	p := full()
	for d := range p.Doors {
		p.Doors[d] = api.Gate{Wait: 1, When: []api.Sense{{Sensor: d, Value: d}}}
	}
	// The sensor 0 senses 0, so that the door 0 is open.
	rows, e := control.Play(p, 3, []api.Signal{sensed(1, 7, 7), sensed(2, 0, 9)})
	if !slices.Equal(rows, []int{254, 126, 127}) || e != api.OK {
		t.Errorf("Play = %v, %d", rows, e)
	}
}

// P8.1: what the master knows.
func TestKnows(t *testing.T) {
	for i, c := range []struct {
		p      api.Panel
		ticks  int
		l      []api.Signal
		values string
		ages   string
	}{
		{panel(), 0, nil, "[]", "[]"},
		{panel(), 3, []api.Signal{sensed(1, 0, 7), signal(1, api.Muted, 0)}, "[[0 0] [0 0] [7 0]]", "[[0 0] [1 0] [0 0]]"},
		{panel(), 2, []api.Signal{signal(0, api.Dark, 0)}, "[[0 0] [0 0]]", "[[1 1] [2 2]]"},
		{panel(), 2, each(api.Muted, 1, 0, 1), "[[0 0] [0 0]]", "[[0 1] [0 2]]"},
		{gate(1, 1, 1), 4, []api.Signal{sensed(0, 0, 5), sensed(1, 0, 6), signal(1, api.Dark, 0), sensed(2, 0, 7), signal(3, api.Light, 0)}, "[[5] [5] [5] [7]]", "[[0] [1] [2] [0]]"},
		{gate(1, 1, 1), 3, []api.Signal{sensed(1, 0, 4), signal(1, api.Dark, 0), signal(1, api.Light, 0), sensed(1, 0, 3), signal(2, api.Muted, 0)}, "[[0] [3] [3]]", "[[0] [0] [1]]"},
		{gate(1, 1, 1), 2, []api.Signal{signal(0, api.Light, 0), signal(1, api.Missed, 0), signal(1, api.Stood, 0)}, "[[0] [0]]", "[[0] [0]]"},
		{api.Panel{Stale: 1, Limit: 1}, 2, nil, "[[] []]", "[[] []]"},
	} {
		values, ages, e := control.Knows(c.p, c.ticks, c.l)
		if fmt.Sprint(values) != c.values || fmt.Sprint(ages) != c.ages || e != api.OK {
			t.Errorf("%d: %v, %v, %d", i, values, ages, e)
		}
	}
}

// P8.1: the first tick in which a door is shut, and the most in a row.
func TestShuts(t *testing.T) {
	for i, c := range []struct {
		ticks          int
		l              []api.Signal
		door           int
		first, longest int
	}{
		{4, nil, 0, 0, 4}, {4, nil, 1, -1, 0}, {0, nil, 0, -1, 0}, {20, nil, 0, 0, 8},
		{5, []api.Signal{signal(0, api.Stood, 0), signal(2, api.Dark, 0), signal(3, api.Light, 0)}, 0, 1, 2},
		{7, []api.Signal{signal(3, api.Dark, 0), signal(4, api.Light, 0), signal(6, api.Dark, 0)}, 0, 0, 3},
		{7, []api.Signal{signal(1, api.Dark, 0), signal(2, api.Light, 0)}, 0, 0, 5},
		{4, each(api.Stood, 0, 0, 3), 0, -1, 0}, {4, each(api.Stood, 0, 0, 2), 0, 3, 1}, {4, []api.Signal{signal(0, api.Dark, 0)}, 0, -1, 0},
	} {
		if first, longest, e := control.Shuts(panel(), c.ticks, c.l, c.door); first != c.first || longest != c.longest || e != api.OK {
			t.Errorf("%d: %d, %d, %d, want %d, %d", i, first, longest, e, c.first, c.longest)
		}
	}
}

// P8.2: the greatest wait counts, of doors that have literals.
func TestFrees(t *testing.T) {
	door := func(wait, literals int) api.Gate { return api.Gate{Wait: wait, When: make([]api.Sense, literals)} }
	for i, c := range []struct {
		doors []api.Gate
		want  int
	}{
		{panel().Doors, 10}, {nil, 0}, {[]api.Gate{door(50, 0), door(50, 0)}, 0},
		{[]api.Gate{door(50, 0), door(1, 1), door(4, 8), door(3, 1), door(50, 0)}, 11}, {[]api.Gate{door(1, 1)}, 8},
	} {
		p := panel()
		p.Doors = c.doors
		if n, e := control.Frees(p); n != c.want || e != api.OK {
			t.Errorf("%d: %d, %d, want %d", i, n, e, c.want)
		}
	}
	if n, e := control.Frees(full()); n != 1049 || e != api.OK {
		t.Errorf("Frees of a full panel = %d, %d", n, e)
	}
}

// P8.2: what a door does without.
func TestTolerates(t *testing.T) {
	for door, want := range []int{2, 0} {
		if n, e := control.Tolerates(panel(), door); n != want || e != api.OK {
			t.Errorf("%d: %d, %d", door, n, e)
		}
	}
	if n, e := control.Tolerates(full(), 7); n != 49 || e != api.OK {
		t.Errorf("Tolerates of a full panel = %d, %d", n, e)
	}
}

// P8.2: the fewest losses.
func TestCut(t *testing.T) {
	for i, c := range []struct {
		p     api.Panel
		ticks int
		l     []api.Signal
		door  int
		want  []int
	}{
		{panel(), 4, nil, 0, []int{1, 2, 3}},
		{panel(), 4, each(api.Stood, 0, 2, 3), 0, []int{0, 1}},
		{panel(), 1, nil, 0, []int{0}}, {panel(), 2, nil, 0, []int{0, 1}},
		// The door is open anyway.
		{panel(), 4, nil, 1, nil}, {panel(), 9, nil, 0, nil}, {panel(), 4, each(api.Stood, 0, 0, 3), 0, nil},
		{panel(), 4, []api.Signal{signal(3, api.Dark, 0)}, 0, nil}, {panel(), 5, each(api.Muted, 0, 3, 4), 0, nil},
		{panel(), 4, append(each(api.Missed, 0, 1, 2), signal(3, api.Missed, 0)), 0, nil},
		// Some is lost anyway, or is never told.
		{panel(), 4, each(api.Missed, 0, 1, 2), 0, []int{3}}, {panel(), 4, each(api.Missed, 0, 2, 3), 0, []int{1}},
		{panel(), 4, []api.Signal{signal(1, api.Dark, 0), signal(2, api.Light, 0)}, 0, []int{2, 3}},
		{panel(), 4, []api.Signal{sensed(2, 0, 1), sensed(3, 0, 0)}, 0, []int{3}},
		{panel(), 4, []api.Signal{sensed(2, 0, 1), sensed(3, 0, 0), signal(2, api.Missed, 0)}, 0, []int{1, 3}},
		{panel(), 10, each(api.Missed, 0, 8, 9), 0, []int{7}},
		// Somebody holds the door open who came when it was.
		{panel(), 6, each(api.Stood, 0, 1, 5), 0, []int{0}},
		{panel(), 6, append(each(api.Stood, 0, 1, 5), signal(2, api.Dark, 0), signal(3, api.Light, 0)), 0, nil},
		{panel(), 7, append(each(api.Stood, 0, 4, 6), signal(3, api.Missed, 0)), 0, []int{1, 2}},
		{panel(), 7, each(api.Stood, 0, 4, 5), 0, []int{4, 5, 6}},
		// Of several lists the first one: 2 and 3, not 3 and 4.
		{gate(2, 1, 99), 6, each(api.Stood, 0, 4, 5), 0, []int{2, 3}},
		{gate(1, 1, 99), 6, each(api.Stood, 0, 2, 5), 0, []int{1}},
		{gate(1, 1, 99), 6, append(each(api.Stood, 0, 2, 3), signal(5, api.Stood, 0)), 0, []int{4}},
		// More signals than there may be, together with the losses.
		{gate(50, 1, 999), 60, slices.Repeat([]api.Signal{sensed(0, 0, 0)}, 200), 0, rising(10, 60)},
		{full(), 1000, each(api.Missed, 7, 800, 990), 7, rising(991, 1000)},
	} {
		if l, e := control.Cut(c.p, c.ticks, c.l, c.door); !slices.Equal(l, c.want) || e != api.OK {
			t.Errorf("%d: %v, %d, want %v", i, l, e, c.want)
		}
	}
}

// rising returns the numbers from one up to another, without it.
func rising(from, to int) []int {
	var l []int
	for n := from; n < to; n++ {
		l = append(l, n)
	}
	return l
}

// P8.2: rows that are safe, and rows that are not.
func TestSafe(t *testing.T) {
	late := append(each(api.Missed, 0, 8, 11), each(api.Stood, 0, 0, 11)...)
	blackout := []api.Signal{signal(1, api.Dark, 0), signal(2, api.Light, 0), signal(2, api.Muted, 0)}
	stale := gate(3, 2, 99)
	for i, c := range []struct {
		p          api.Panel
		l          []api.Signal
		rows       []int
		tick, door int
	}{
		{panel(), nil, nil, -1, -1}, {panel(), nil, []int{0, 0, 0}, -1, -1}, {panel(), nil, []int{1, 1, 1}, -1, -1},
		{api.Panel{Stale: 1, Limit: 1}, nil, []int{0, 0}, -1, -1},
		{panel(), nil, []int{1, 2, 1}, 1, 1}, {panel(), nil, []int{1, 3, 3}, 1, 1},
		// Without power.
		{panel(), []api.Signal{signal(1, api.Dark, 0)}, []int{0, 1, 0}, 1, 0},
		{panel(), []api.Signal{signal(1, api.Dark, 0)}, []int{0, 3, 0}, 1, 0},
		{panel(), []api.Signal{signal(0, api.Dark, 0), signal(0, api.Light, 0)}, []int{1}, -1, -1},
		// The master has not told it.
		{panel(), []api.Signal{sensed(0, 0, 1)}, []int{1, 0, 0}, 0, 0},
		{panel(), []api.Signal{sensed(1, 0, 1)}, []int{1, 1, 1, 0}, -1, -1},
		{panel(), []api.Signal{sensed(1, 0, 1)}, []int{1, 1, 1, 1}, 3, 0},
		{panel(), []api.Signal{sensed(1, 0, 1)}, []int{0, 0, 0, 1, 2}, 3, 0},
		{panel(), []api.Signal{sensed(1, 0, 1), sensed(4, 0, 0)}, []int{1, 1, 1, 0, 1, 1}, -1, -1},
		{stale, each(api.Muted, 0, 0, 3), []int{1, 1, 1, 1}, 3, 0},
		// Whether the door heard it, or somebody stands in it, does not matter.
		{panel(), each(api.Missed, 0, 0, 2), []int{1, 1, 1}, -1, -1}, {panel(), each(api.Stood, 0, 0, 2), []int{1, 1, 1}, -1, -1},
		// The master did tell it in the last ticks, also if the power failed since.
		{stale, blackout, []int{1, 0, 1}, -1, -1},
		// The time of all doors, and that of one of them.
		{panel(), late, []int{1, 1, 1, 1, 1, 1, 1, 1, 1, 1, 0, 0}, -1, -1},
		{panel(), late, []int{0, 0, 0, 0, 0, 0, 0, 0, 0, 0, 1, 0}, 10, 0},
		{panel(), late, []int{0, 0, 0, 0, 0, 0, 0, 0, 0, 0, 0, 1}, 11, 0},
		{gate(1, 1, 1), nil, []int{1, 0}, -1, -1}, {gate(1, 1, 1), nil, []int{1, 1}, 1, 0},
		{api.Panel{Doors: []api.Gate{{Wait: 1}}, Stale: 1, Limit: 1}, nil, []int{1, 1}, 0, 0},
		{full(), nil, []int{255, 255}, -1, -1},
	} {
		if tick, door, e := control.Safe(c.p, len(c.rows), c.l, c.rows); tick != c.tick || door != c.door || e != api.OK {
			t.Errorf("%d: %d, %d, %d, want %d, %d", i, tick, door, e, c.tick, c.door)
		}
	}
}

// P8.1 and P8.2: plays can be as long as the limits allow.
func TestLongPlays(t *testing.T) {
	l := slices.Repeat([]api.Signal{signal(999, api.Stood, 7)}, 200)
	rows, e := control.Play(full(), 1000, l)
	if want := slices.Repeat([]int{255}, 1000); !reflect.DeepEqual(rows, want) || e != api.OK {
		t.Errorf("Play = %v, %d", rows, e)
	}
	if first, longest, e := control.Shuts(full(), 1000, l, 7); first != 0 || longest != 1000 || e != api.OK {
		t.Errorf("Shuts = %d, %d, %d", first, longest, e)
	}
	if tick, door, e := control.Safe(full(), 1000, l, rows); tick != -1 || door != -1 || e != api.OK {
		t.Errorf("Safe = %d, %d, %d", tick, door, e)
	}
	if list, e := control.Cut(full(), 1000, l, 7); !slices.Equal(list, rising(949, 999)) || e != api.OK {
		t.Errorf("Cut = %v, %d", list, e)
	}
}
