// Package goal: what is to be done, so that something is so.
package goal

import "coachhouse/api"

// Next: what is to be done for a goal, as things are; done: nothing, it is so.
func Next(g api.Goal, s api.Sensed) (c byte, done bool) {
	switch g.Kind {
	case api.GoHeight:
		return toward(s.Height, g.N, api.Up, api.Down)
	case api.GoReach:
		return toward(s.Ext, g.N, api.Right, api.Left)
	case api.GoGrab:
		return unless(s.Lift != 0, api.Grab)
	case api.GoPut:
		return unless(s.Lift == 0, api.Put)
	case api.GoShut:
		return unless(!s.Door, api.Shut)
	case api.GoOpen:
		return unless(s.Door, api.Open)
	case api.GoIn:
		return unless(s.Lift != 0, api.In)
	case api.GoOut:
		return unless(s.Lift == 0, api.Out)
	}
	return api.Rest, true
}

func toward(is, wanted int, more, less byte) (byte, bool) {
	if is < wanted {
		return more, false
	}
	return unless(is == wanted, less)
}

func unless(so bool, c byte) (byte, bool) {
	if so {
		return api.Rest, true
	}
	return c, false
}
