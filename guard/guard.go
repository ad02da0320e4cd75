// Package guard: what may be done now.
package guard

import "coachhouse/api"

// May it be done?
func May(c byte, s api.Sensed) bool {
	switch c {
	case api.Rest:
		return true
	case api.Up, api.Down:
		return s.Ext == 0 && closed(s)
	case api.Left:
		return mayReach(s.Ext-1, s.ToLeft, s)
	case api.Right:
		return mayReach(s.Ext+1, s.ToRight, s)
	case api.Grab:
		return level(s) && s.Ext != 0 && s.Lift == 0 && s.Here
	case api.Put:
		return level(s) && s.Ext != 0 && s.Lift != 0 && !s.Here
	case api.Open:
		return below(s)
	case api.Shut:
		return s.People == 0
	case api.In:
		return below(s) && closed(s) && s.Lift == 0 && s.Bay != 0
	case api.Out:
		return below(s) && closed(s) && s.Lift != 0 && s.Bay == 0
	}
	return false
}

func level(s api.Sensed) bool { return s.Height > 0 && s.Height%api.Step == 0 }

func below(s api.Sensed) bool { return s.Height == 0 && s.Ext == 0 }

func closed(s api.Sensed) bool { return !s.Door && s.People == 0 }

// mayReach: may the shuttle go so far, if a car is there, or none?
func mayReach(ext int, car bool, s api.Sensed) bool {
	if ext < -api.Reach || ext > api.Reach {
		return false
	}
	return ext == 0 || level(s) && (s.Lift == 0 || !car)
}
