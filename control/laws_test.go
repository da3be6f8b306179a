package control_test

import (
	"slices"
	"testing"

	"padlock/api"
	"padlock/control"
)

// longest is how long the plays of most laws are.
const longest = 30

// play returns the rows of a play.
func play(t *testing.T, v event, ticks int) []int {
	t.Helper()
	rows, e := control.Play(v.p, ticks, v.l)
	if len(rows) != ticks || e != api.OK {
		t.Fatalf("Play of %d ticks of %+v = %v, %d", ticks, v, rows, e)
	}
	return rows
}

func isShut(rows []int, tick, door int) bool { return rows[tick]>>door&1 == 1 }

// P8.1: Play and Shuts against the oracle.
func TestPlayByOracle(t *testing.T) {
	t.Parallel()
	shut, open := 0, 0
	trials(t, 3000, longest, func(t *testing.T, k maker, v event, ticks int) {
		want := v.rows(ticks)
		if rows := play(t, v, ticks); !slices.Equal(rows, want) {
			t.Errorf("Play of %d ticks of %+v = %v, want %v", ticks, v, rows, want)
		}
		for door := range v.p.Doors {
			first, longest, run := -1, 0, 0
			for tick := range want {
				if !isShut(want, tick, door) {
					run = 0
					open++
					continue
				}
				if shut++; first < 0 {
					first = tick
				}
				run++
				longest = max(longest, run)
			}
			if a, b, e := control.Shuts(v.p, ticks, v.l, door); a != first || b != longest || e != api.OK {
				t.Errorf("Shuts of %d ticks of %+v, %d = %d, %d, %d, want %d, %d", ticks, v, door, a, b, e, first, longest)
			}
		}
	})
	if shut < 10000 || open < 10000 {
		t.Errorf("doors are shut in %d ticks, and open in %d", shut, open)
	}
}

// P8.1 and P8.10: what the master knows is what a sensor sensed when it told so.
func TestKnowsByOracle(t *testing.T) {
	t.Parallel()
	old := 0
	trials(t, 1000, longest, func(t *testing.T, k maker, v event, ticks int) {
		values, ages, e := control.Knows(v.p, ticks, v.l)
		if len(values) != ticks || len(ages) != ticks || e != api.OK {
			t.Fatalf("Knows of %d ticks = %v, %v, %d", ticks, values, ages, e)
		}
		for tick := range ticks {
			if len(values[tick]) != v.p.Sensors || len(ages[tick]) != v.p.Sensors {
				t.Fatalf("Knows of %d sensors: %v, %v", v.p.Sensors, values[tick], ages[tick])
			}
			for sensor, age := range ages[tick] {
				if told := v.told(tick, sensor); age != tick-told || values[tick][sensor] != v.senses(tick-age, sensor) {
					t.Errorf("%+v: %d of the sensor %d in the tick %d since %d", v, values[tick][sensor], sensor, tick, age)
				}
				if age > 0 && values[tick][sensor] != v.senses(tick, sensor) {
					old++
				}
			}
		}
	})
	if old < 100 {
		t.Errorf("%d times the master knows what is not so any more", old)
	}
}

// P8.2 and P8.9: Cut against all lists of losses, and against the other oracle.
func TestCutByOracle(t *testing.T) {
	t.Parallel()
	lengths := map[int]int{}
	trials(t, 1500, 8, func(t *testing.T, k maker, v event, ticks int) {
		if ticks == 0 {
			return
		}
		for door := range v.p.Doors {
			want := v.cut(ticks, door)
			if list, e := control.Cut(v.p, ticks, v.l, door); !slices.Equal(list, want) || e != api.OK {
				t.Errorf("Cut of %d ticks of %+v, %d = %v, %d, want %v", ticks, v, door, list, e, want)
			}
			if list := v.cutByWindows(ticks, door); !slices.Equal(list, want) {
				t.Errorf("the oracles say %v and %v", want, list)
			}
			lengths[len(want)]++
		}
	})
	if lengths[0] < 100 || lengths[1] < 100 || lengths[2] < 100 || lengths[3] < 30 {
		t.Errorf("so many are so long: %v", lengths)
	}
}

// P8.2: Cut in longer plays, with longer waits and people who stand for long.
func TestLongCutByOracle(t *testing.T) {
	t.Parallel()
	early := 0
	trials(t, 120, 120, func(t *testing.T, k maker, v event, ticks int) {
		v.p.Limit = 1 + k.IntN(1000)
		for door := range v.p.Doors {
			v.p.Doors[door].Wait = 1 + k.IntN(50)
			if stood := each(api.Stood, door, max(0, ticks-k.IntN(60)), ticks-1); len(v.l)+len(stood) <= 200 {
				v.l = append(v.l, stood...)
			}
		}
		for door := range v.p.Doors {
			if ticks == 0 {
				return
			}
			want := v.cutByWindows(ticks, door)
			if list, e := control.Cut(v.p, ticks, v.l, door); !slices.Equal(list, want) || e != api.OK {
				t.Errorf("Cut of %d ticks of %+v, %d = %v, %d, want %v", ticks, v, door, list, e, want)
			}
			if len(want) > 0 && want[len(want)-1] < ticks-1 {
				early++
			}
		}
	})
	if early < 20 {
		t.Errorf("in %d plays it is best to lose early", early)
	}
}

// P8.2: Safe and Frees against the oracle, with rows that are mostly safe.
func TestSafeByOracle(t *testing.T) {
	t.Parallel()
	count := map[bool]int{}
	trials(t, 2000, longest, func(t *testing.T, k maker, v event, ticks int) {
		rows := play(t, v, ticks)
		for range 2 {
			if ticks > 0 {
				rows[k.IntN(ticks)] = k.IntN(1 << len(v.p.Doors))
			}
		}
		wantTick, wantDoor := v.safe(rows)
		if tick, door, e := control.Safe(v.p, ticks, v.l, rows); tick != wantTick || door != wantDoor || e != api.OK {
			t.Errorf("Safe of %+v and %v = %d, %d, %d, want %d, %d", v, rows, tick, door, e, wantTick, wantDoor)
		}
		count[wantTick < 0]++
		if n, e := control.Frees(v.p); n != v.frees() || e != api.OK {
			t.Errorf("Frees of %+v = %d, %d", v.p, n, e)
		}
	})
	if count[true] < 300 || count[false] < 300 {
		t.Errorf("so many rows are safe: %v", count)
	}
}

// P8.3: without power no door is shut; Safe finds nothing in what Play returns.
func TestPowerLaw(t *testing.T) {
	t.Parallel()
	dark := 0
	trials(t, 1000, longest, func(t *testing.T, k maker, v event, ticks int) {
		rows := play(t, v, ticks)
		for tick, row := range rows {
			if !v.power(tick) {
				if dark++; row != 0 {
					t.Errorf("%+v: in the tick %d is no power, and the row is %d", v, tick, row)
				}
			}
		}
		if tick, door, e := control.Safe(v.p, ticks, v.l, rows); tick != -1 || door != -1 || e != api.OK {
			t.Errorf("Safe of %+v and %v = %d, %d, %d", v, rows, tick, door, e)
		}
	})
	if dark < 500 {
		t.Errorf("only %d ticks are dark", dark)
	}
}

// P8.4: a door that hears nothing for as long as it waits is open then; and Tolerates says how long that is.
func TestSilenceLaw(t *testing.T) {
	t.Parallel()
	trials(t, 1000, longest, func(t *testing.T, k maker, v event, ticks int) {
		for door, g := range v.p.Doors {
			n, e := control.Tolerates(v.p, door)
			if n != g.Wait-1 || e != api.OK {
				t.Errorf("Tolerates of %+v, %d = %d, %d", v.p, door, n, e)
			}
			if first := k.IntN(longest); first+n < ticks {
				lost := event{v.p, append(slices.Clone(v.l), each(api.Missed, door, first, first+n)...)}
				if isShut(play(t, lost, ticks), first+n, door) {
					t.Errorf("%+v: the door %d is shut in the tick %d", lost, door, first+n)
				}
			}
		}
	})
}

// P8.2: a door that is told to hold, and misses as many words in a row as it tolerates, stays shut; with one more it is open.
func TestTolerance(t *testing.T) {
	for wait := 1; wait <= 50; wait++ {
		n, _ := control.Tolerates(gate(wait, 1, 1000), 0)
		for lost, want := range map[int]int{n: -1, n + 1: 9 + wait} {
			rows := play(t, event{gate(wait, 1, 1000), each(api.Missed, 0, 10, 9+lost)}, 100)
			if open := slices.Index(rows, 0); open != want {
				t.Errorf("wait %d, %d lost: the door is open in the tick %d, want %d", wait, lost, open, want)
			}
		}
	}
}

// P8.5: from Frees on no door is shut, and in the tick before it one can be.
func TestTimeLaw(t *testing.T) {
	t.Parallel()
	late := 0
	trials(t, 1000, longest, func(t *testing.T, k maker, v event, ticks int) {
		frees, e := control.Frees(v.p)
		for tick, row := range play(t, v, ticks) {
			if tick >= frees && row != 0 || e != api.OK {
				t.Errorf("%+v: in the tick %d the row is %d, and Frees is %d, %d", v, tick, row, frees, e)
			}
		}
		if frees == 0 {
			return
		}
		late++
		door := slices.IndexFunc(v.p.Doors, func(g api.Gate) bool { return len(g.When) > 0 && v.p.Limit+g.Wait-1 == frees })
		first := v.p.Doors[door].When[0]
		value := first.Value
		if !first.Not {
			value = (value + 1) % 10
		}
		worst := event{v.p, append(each(api.Missed, door, v.p.Limit, frees-1), sensed(0, first.Sensor, value))}
		if rows := play(t, worst, frees+1); !isShut(rows, frees-1, door) || rows[frees] != 0 {
			t.Errorf("%+v: %v, and Frees is %d", worst, rows, frees)
		}
	})
	if late < 500 {
		t.Errorf("only %d panels have doors that can be shut", late)
	}
}

// P8.6: a door that should open for long enough is open, whatever is lost.
func TestOpensLaw(t *testing.T) {
	t.Parallel()
	long := 0
	trials(t, 2000, longest, func(t *testing.T, k maker, v event, ticks int) {
		v.p.Limit = 1000
		rows := play(t, v, ticks)
		for door, g := range v.p.Doors {
			run := 0
			for tick := range ticks {
				if run++; !v.holds(door, func(sensor int) int { return v.senses(tick, sensor) }) {
					run = 0
				}
				if run >= v.p.Stale+g.Wait-1 {
					if len(g.When) > 0 {
						long++
					}
					if isShut(rows, tick, door) {
						t.Errorf("%+v: the door %d is shut in the tick %d", v, door, tick)
					}
				}
			}
		}
	})
	if long < 1000 {
		t.Errorf("doors should be open in only %d ticks", long)
	}
}

// P8.7: if nothing is lost and there is power, doors do as their conditions say.
func TestWorksLaw(t *testing.T) {
	t.Parallel()
	count := map[bool]int{}
	trials(t, 1000, longest, func(t *testing.T, k maker, v event, ticks int) {
		v.l = slices.DeleteFunc(v.l, func(s api.Signal) bool { return s.Kind != api.Sensed && s.Kind != api.Stood })
		rows := play(t, v, ticks)
		for tick := range min(ticks, v.p.Limit) {
			for door := range v.p.Doors {
				should := v.holds(door, func(sensor int) int { return v.senses(tick, sensor) })
				count[should]++
				if is := isShut(rows, tick, door); is && should || !is && !should && !v.has(tick, api.Stood, door) {
					t.Errorf("%+v: the door %d in the tick %d: shut %v, should open %v", v, door, tick, is, should)
				}
			}
		}
	})
	if count[true] < 1000 || count[false] < 1000 {
		t.Errorf("so many should open: %v", count)
	}
}

// P8.8: a door that is open stays so as long as somebody stands in it, and one that is shut is not opened by it.
func TestStoodLaw(t *testing.T) {
	t.Parallel()
	kept := 0
	trials(t, 1000, longest, func(t *testing.T, k maker, v event, ticks int) {
		rows := play(t, v, ticks)
		alone := v
		for door := range v.p.Doors {
			alone.l = slices.DeleteFunc(slices.Clone(v.l), func(s api.Signal) bool { return s.Kind == api.Stood && s.Number == door })
			empty := play(t, alone, ticks)
			for tick := range ticks {
				wasOpen := tick == 0 || !isShut(rows, tick-1, door)
				if wasOpen && v.has(tick, api.Stood, door) && isShut(rows, tick, door) {
					t.Errorf("%+v: the door %d is shut in the tick %d", v, door, tick)
				}
				if isShut(rows, tick, door) != isShut(empty, tick, door) {
					if kept++; !wasOpen || !v.has(tick, api.Stood, door) {
						t.Errorf("%+v: in the tick %d the door %d is another one without people", v, tick, door)
					}
				}
			}
		}
	})
	if kept < 100 {
		t.Errorf("people kept doors open in only %d ticks", kept)
	}
}

// P8.9: the losses of Cut open the door, and fewer do not; a door that heard to hold for long needs more than it tolerates.
func TestCutLaw(t *testing.T) {
	t.Parallel()
	long := 0
	trials(t, 1000, longest, func(t *testing.T, k maker, v event, ticks int) {
		for door, g := range v.p.Doors {
			if ticks == 0 {
				return
			}
			list, e := control.Cut(v.p, ticks, v.l, door)
			if e != api.OK || isShut(play(t, v.lose(door, list), ticks), ticks-1, door) {
				t.Errorf("%+v: the door %d is shut with the losses %v, %d", v, door, list, e)
			}
			for i := range list {
				fewer := slices.Delete(slices.Clone(list), i, i+1)
				if !isShut(play(t, v.lose(door, fewer), ticks), ticks-1, door) {
					t.Errorf("%+v: the door %d is open with the losses %v, too", v, door, fewer)
				}
			}
			hears, stood := true, v.has(ticks-1, api.Stood, door)
			for tick := ticks - g.Wait; tick < ticks; tick++ {
				hears = hears && tick >= 0 && v.hears(tick, door) == "hold"
			}
			if hears && !stood {
				if long++; len(list) <= g.Wait-1 {
					t.Errorf("%+v: the losses %v of the door %d are too few", v, list, door)
				}
			}
		}
	})
	if long < 100 {
		t.Errorf("only %d doors hear to hold for long", long)
	}
}
