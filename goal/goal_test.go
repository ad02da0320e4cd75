package goal

import (
	"math"
	"testing"

	"coachhouse/api"
)

func TestD1(t *testing.T) {
	full, empty := api.Sensed{Lift: 7}, api.Sensed{}
	open, shut := api.Sensed{Door: true}, api.Sensed{}
	for _, c := range []struct {
		goal api.Goal
		s    api.Sensed
		want byte // Rest: it is so
	}{
		{api.Goal{Kind: api.GoHeight, N: 6}, api.Sensed{Height: 5, Ext: 9}, api.Up},
		{api.Goal{Kind: api.GoHeight, N: 6}, api.Sensed{Height: 7, Ext: 6}, api.Down},
		{api.Goal{Kind: api.GoHeight, N: 6}, api.Sensed{Height: 6, Ext: 2}, api.Rest},
		{api.Goal{Kind: api.GoHeight, N: math.MaxInt}, api.Sensed{Height: math.MinInt}, api.Up},
		{api.Goal{Kind: api.GoHeight, N: math.MinInt}, api.Sensed{Height: math.MaxInt}, api.Down},
		{api.Goal{Kind: api.GoReach, N: 1}, api.Sensed{Ext: 0, Height: 9}, api.Right},
		{api.Goal{Kind: api.GoReach, N: -1}, api.Sensed{Ext: 0, Height: -9}, api.Left},
		{api.Goal{Kind: api.GoReach, N: -2}, api.Sensed{Ext: -2, Height: 3}, api.Rest},
		{api.Goal{Kind: api.GoReach}, api.Sensed{Ext: -2}, api.Right},
		{api.Goal{Kind: api.GoReach}, api.Sensed{Ext: 2}, api.Left},
		{api.Goal{Kind: api.GoReach, N: math.MaxInt}, api.Sensed{Ext: math.MinInt}, api.Right},
		{api.Goal{Kind: api.GoReach, N: math.MinInt}, api.Sensed{Ext: math.MaxInt}, api.Left},
		{api.Goal{Kind: api.GoGrab}, empty, api.Grab},
		{api.Goal{Kind: api.GoGrab}, full, api.Rest},
		{api.Goal{Kind: api.GoPut}, full, api.Put},
		{api.Goal{Kind: api.GoPut}, empty, api.Rest},
		{api.Goal{Kind: api.GoShut}, open, api.Shut},
		{api.Goal{Kind: api.GoShut}, shut, api.Rest},
		{api.Goal{Kind: api.GoOpen}, shut, api.Open},
		{api.Goal{Kind: api.GoOpen}, open, api.Rest},
		{api.Goal{Kind: api.GoIn}, empty, api.In},
		{api.Goal{Kind: api.GoIn}, full, api.Rest},
		{api.Goal{Kind: api.GoOut}, full, api.Out},
		{api.Goal{Kind: api.GoOut}, empty, api.Rest},
		// What stands in the bay, who is there and what may be done make no difference to what is wanted.
		{api.Goal{Kind: api.GoIn}, api.Sensed{Bay: 3, People: 2, Door: true, Height: 4}, api.In},
		{api.Goal{Kind: api.GoOut}, api.Sensed{Bay: 3, Lift: 4, Ext: 1}, api.Out},
		{api.Goal{Kind: api.GoShut}, api.Sensed{Door: true, People: 9}, api.Shut},
		{api.Goal{Kind: api.GoGrab, N: 5}, api.Sensed{Here: false}, api.Grab},
	} {
		got, done := Next(c.goal, c.s)
		if got != c.want || done != (c.want == api.Rest) {
			t.Errorf("%+v at %+v: %c, %v, want %c", c.goal, c.s, got, done, c.want)
		}
	}
}

func TestD1OtherKinds(t *testing.T) {
	for _, kind := range []int{math.MinInt, -1, 0, 9, 10, 256 + api.GoShut, math.MaxInt} {
		for _, s := range []api.Sensed{{}, {Door: true, Lift: 1, Bay: 2, Height: 5, Ext: 1, People: 3}} {
			if got, done := Next(api.Goal{Kind: kind, N: 4}, s); got != api.Rest || !done {
				t.Errorf("kind %d: %c, %v", kind, got, done)
			}
		}
	}
}
