package room

import "padlock/api"

func nameOfProp(p api.Prop) string { return p.Name }

func nameOfAct(a api.Act) string { return a.Name }
