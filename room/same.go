package room

import (
	"slices"

	"padlock/api"
)

func sameProp(a, b api.Prop) bool {
	return a.Name == b.Name && a.Place == b.Place && slices.Equal(a.When, b.When)
}

func sameWay(a, b api.Way) bool {
	return a.A == b.A && a.B == b.B && slices.Equal(a.When, b.When)
}

func sameAct(a, b api.Act) bool {
	return a.Name == b.Name && a.Place == b.Place && a.Lock == b.Lock &&
		slices.Equal(a.When, b.When) && slices.Equal(a.Sets, b.Sets) &&
		slices.Equal(a.Uses, b.Uses) && slices.Equal(a.Spends, b.Spends) && slices.Equal(a.Brings, b.Brings)
}

func sameAuto(a, b api.Auto) bool { return a.Set == b.Set && slices.Equal(a.When, b.When) }
