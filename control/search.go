package control

import "padlock/api"

// never is more losses than there can be: nothing opens the door.
const never = api.MaxTicks + 1

// stage is how a door stands before a tick.
type stage struct {
	stance
	tick int
}

// search looks for the fewest losses with which a door is open in the last tick.
type search struct {
	play
	door  int
	found map[stage]int // how few losses from a stage on are enough
}

func newSearch(y play, door int) search {
	return search{play: y, door: door, found: map[stage]int{}}
}

// losses returns the fewest ticks, and of several such lists the first one.
func (s search) losses() []int {
	var list []int
	for at := (stage{}); at.tick < len(s.moments); {
		// The lists that lose something now come before all that are as long and do not.
		lost := s.fewest(s.behind(at, true))+1 == s.fewest(at)
		if lost {
			list = append(list, at.tick)
		}
		at = s.behind(at, lost)
	}
	return list
}

// fewest returns how few losses from a stage on are enough.
func (s search) fewest(at stage) int {
	if at.tick == len(s.moments) {
		if at.shut {
			return never
		}
		return 0
	}
	if n, known := s.found[at]; known {
		return n
	}
	n := min(s.fewest(s.behind(at, false)), s.fewest(s.behind(at, true))+1)
	s.found[at] = n
	return n
}

// behind returns the stage behind the next tick, in which what the door is told is lost or not.
func (s search) behind(at stage, lost bool) stage {
	return stage{s.next(at.stance, s.door, at.tick, lost), at.tick + 1}
}
