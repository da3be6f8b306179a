package control_test

import (
	"reflect"
	"slices"
	"testing"

	"padlock/api"
	"padlock/control"
)

// spoil writes over all numbers of a result, and behind its lists.
func spoil(v reflect.Value) {
	switch v.Kind() {
	case reflect.Interface:
		spoil(v.Elem())
	case reflect.Slice:
		for i := range v.Len() {
			spoil(v.Index(i))
		}
		if v.Cap() > v.Len() {
			spoil(v.Slice(0, v.Cap()).Index(v.Len()))
		}
	case reflect.Int:
		if v.CanSet() {
			v.SetInt(77)
		}
	}
}

// R4: arguments stay as they are, and results are new memory; results depend on the arguments alone.
func TestMemory(t *testing.T) {
	t.Parallel()
	trials(t, 300, longest, func(t *testing.T, k maker, v event, ticks int) {
		made := func() (api.Panel, given) {
			p := v.p
			p.Doors = slices.Grow(slices.Clone(p.Doors), 3)
			for i := range p.Doors {
				p.Doors[i].When = slices.Grow(slices.Clone(p.Doors[i].When), 3)
			}
			return p, given{ticks, slices.Grow(slices.Clone(v.l), 3), 0, slices.Grow(make([]int, ticks), 3)}
		}
		p, g := made()
		before, now := calls(p, g), calls(p, g)
		for _, results := range now {
			for _, result := range results {
				spoil(reflect.ValueOf(&result).Elem())
			}
		}
		if after := calls(p, g); !reflect.DeepEqual(before, after) {
			t.Errorf("%v, then %v", before, after)
		}
		if q, h := made(); !reflect.DeepEqual(p, q) || !reflect.DeepEqual(g, h) {
			t.Errorf("%v is now %v, and %v is now %v", q, p, h, g)
		}
		if behind := g.signals[:len(g.signals)+1]; behind[len(g.signals)] != (api.Signal{}) {
			t.Errorf("behind the signals stands %v", behind[len(g.signals)])
		}
	})
}

// R4: the lists of one result share no memory.
func TestMemoryOfKnows(t *testing.T) {
	values, ages, e := control.Knows(panel(), 3, []api.Signal{signal(1, api.Dark, 0)})
	if e != api.OK {
		t.Fatalf("Knows: %d", e)
	}
	for i, list := range append(values, ages...) {
		for j := range list {
			list[j] = 100 * i
		}
		_ = append(list, 77)
	}
	for i, list := range append(values, ages...) {
		if !slices.Equal(list, []int{100 * i, 100 * i}) {
			t.Errorf("the list %d is %v", i, list)
		}
	}
}

// R3: nil lists and empty lists are the same.
func TestEmptyLists(t *testing.T) {
	thin, fat := panel(), panel()
	fat.Doors[1].When = []api.Sense{}
	a, b := calls(thin, given{ticks: 2, rows: []int{0, 0}}), calls(fat, given{ticks: 2, signals: []api.Signal{}, rows: []int{0, 0}})
	if !reflect.DeepEqual(a, b) {
		t.Errorf("%v, and %v", a, b)
	}
	if tick, door, e := control.Safe(panel(), 0, nil, []int{}); tick != -1 || door != -1 || e != api.OK {
		t.Errorf("Safe of nothing = %d, %d, %d", tick, door, e)
	}
	thin, fat = api.Panel{Stale: 1, Limit: 1}, api.Panel{Doors: []api.Gate{}, Stale: 1, Limit: 1}
	if a, b := calls(thin, given{}), calls(fat, given{}); !reflect.DeepEqual(a, b) {
		t.Errorf("%v, and %v", a, b)
	}
}

// change sets some numbers of a value, and makes some lists shorter or longer.
func (k maker) change(v reflect.Value, numbers []int, often int) {
	switch v.Kind() {
	case reflect.Struct:
		for i := range v.NumField() {
			k.change(v.Field(i), numbers, often)
		}
	case reflect.Slice:
		if k.IntN(often) == 0 {
			list := reflect.MakeSlice(v.Type(), k.IntN(2*v.Len()+2), 500)
			reflect.Copy(list, v)
			v.Set(list)
		}
		for i := range v.Len() {
			k.change(v.Index(i), numbers, often)
		}
	case reflect.Int:
		if k.IntN(often) == 0 {
			v.SetInt(int64(numbers[k.IntN(len(numbers))]))
		}
	case reflect.Bool:
		if k.IntN(often) == 0 {
			v.SetBool(!v.Bool())
		}
	}
}

// P0.1: no function panics, whatever the arguments are, and the results depend on them alone; with an error they are zero (R2).
func TestAnyArguments(t *testing.T) {
	t.Parallel()
	numbers := []int{least, -3, -1, 0, 1, 2, 3, 4, 6, 7, 8, 9, 10, 12, 13, 50, 51, 1000, 1001, most - 1, most}
	count := map[any]int{}
	trials(t, 4000, longest, func(t *testing.T, k maker, v event, ticks int) {
		g := given{ticks, v.l, k.IntN(len(v.p.Doors)), make([]int, ticks)}
		often := 5 + k.IntN(300)
		k.change(reflect.ValueOf(&v.p).Elem(), numbers, often)
		k.change(reflect.ValueOf(&g.ticks).Elem(), numbers, often)
		k.change(reflect.ValueOf(&g.signals).Elem(), numbers, often)
		k.change(reflect.ValueOf(&g.door).Elem(), numbers, often)
		k.change(reflect.ValueOf(&g.rows).Elem(), numbers, often)
		results := calls(v.p, g)
		if again := calls(v.p, g); !reflect.DeepEqual(results, again) {
			t.Fatalf("%v, then %v", results, again)
		}
		for i, l := range results {
			e := l[len(l)-1].(api.Errno)
			if count[e]++; e != api.OK && !isError(l, e) {
				t.Errorf("%s: %v", called[i], l)
			}
		}
	})
	for _, e := range []api.Errno{api.OK, api.ErrArg, api.ErrNone, api.ErrControl, api.ErrEvent} {
		if count[e] < 50 {
			t.Errorf("the error %d came %d times", e, count[e])
		}
	}
}

// P0.1: lists that are much too long.
func TestHugeArguments(t *testing.T) {
	g := given{most, make([]api.Signal, 1<<20), most, make([]int, 1<<20)}
	expect(t, "doors", api.Panel{Sensors: most, Doors: make([]api.Gate, 1<<20), Stale: most, Limit: most}, g, api.ErrControl, called...)
	p := panel()
	p.Doors[0].When = make([]api.Sense, 1<<20)
	expect(t, "literals", p, g, api.ErrControl, called...)
	expect(t, "signals", panel(), given{ticks: 1, signals: g.signals, rows: g.rows}, api.ErrEvent, withTicks...)
	expect(t, "rows", panel(), given{ticks: 1, rows: g.rows}, api.ErrArg, withRows...)
}
