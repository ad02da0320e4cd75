// Package plan: goals, one behind the other.
package plan

import (
	"coachhouse/api"
	"coachhouse/tower"
)

// Fetch a car from a place.
func Fetch(p api.Place) []api.Goal { return visit(p, api.GoGrab) }

// Bring a car to a place.
func Bring(p api.Place) []api.Goal { return visit(p, api.GoPut) }

// TakeIn a car from the bay.
func TakeIn() []api.Goal {
	return append(moveTo(0), api.Goal{Kind: api.GoIn})
}

// GiveOut a car into the bay, and open it.
func GiveOut() []api.Goal {
	return append(moveTo(0), api.Goal{Kind: api.GoOut}, api.Goal{Kind: api.GoOpen})
}

// Welcome: below, and open.
func Welcome() []api.Goal {
	return append(moveTo(0), api.Goal{Kind: api.GoOpen})
}

// moveTo a height: the shuttle is drawn in and the door shut ahead of it, as the lift may not move otherwise.
func moveTo(height int) []api.Goal {
	return []api.Goal{
		{Kind: api.GoReach},
		{Kind: api.GoShut},
		{Kind: api.GoHeight, N: height},
	}
}

// visit a place to grab or put there.
func visit(p api.Place, kind int) []api.Goal {
	return append(moveTo(p.Level*api.Step),
		api.Goal{Kind: api.GoReach, N: tower.Ext(p)},
		api.Goal{Kind: kind},
		api.Goal{Kind: api.GoReach})
}
