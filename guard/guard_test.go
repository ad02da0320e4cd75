package guard

import (
	"math"
	"strings"
	"testing"

	"coachhouse/api"
)

const acts = "-udlrgpocnx"

// allowed: of all that a byte can be, what may be done, in the order of acts.
func allowed(s api.Sensed) string {
	var b strings.Builder
	for _, c := range []byte(acts) {
		if May(c, s) {
			b.WriteByte(c)
		}
	}
	return b.String()
}

func TestC1ByHand(t *testing.T) {
	for _, c := range []struct {
		name string
		s    api.Sensed
		want string
	}{
		{"below, shut, empty", api.Sensed{}, "-udoc"},
		{"below, shut, a car in the bay", api.Sensed{Bay: 5}, "-udocn"},
		{"below, shut, a car on the lift", api.Sensed{Lift: 5}, "-udocx"},
		{"below, shut, both", api.Sensed{Lift: 5, Bay: 6}, "-udoc"},
		{"below, open", api.Sensed{Door: true, Bay: 5}, "-oc"},
		{"below, open, a car on the lift", api.Sensed{Door: true, Lift: 5}, "-oc"},
		{"below, open, people", api.Sensed{Door: true, People: 1, Bay: 5}, "-o"},
		{"below, shut, people", api.Sensed{People: 1, Lift: 5}, "-o"},
		{"between levels", api.Sensed{Height: 1, Bay: 5}, "-udc"},
		{"between levels, a car on the lift", api.Sensed{Height: 2, Lift: 5}, "-udc"},
		{"between levels, out", api.Sensed{Height: 2, Ext: 1}, "-lc"},
		{"between levels, far out", api.Sensed{Height: 4, Ext: -2}, "-c"},
		{"below, out", api.Sensed{Ext: -1, Bay: 5}, "-rc"},
		{"at a level", api.Sensed{Height: 3, ToLeft: true, ToRight: true, Bay: 5}, "-udlrc"},
		{"at a level, a car on the lift", api.Sensed{Height: 6, Lift: 5}, "-udlrc"},
		{"at a level, a car on the lift, one to the left", api.Sensed{Height: 6, Lift: 5, ToLeft: true}, "-udrc"},
		{"at a level, a car on the lift, one to the right", api.Sensed{Height: 12, Lift: 5, ToRight: true}, "-udlc"},
		{"out, a car is here", api.Sensed{Height: 3, Ext: 1, Here: true}, "-lrgc"},
		{"out, none is here", api.Sensed{Height: 3, Ext: 1}, "-lrc"},
		{"out, a car on the lift, none here", api.Sensed{Height: 3, Ext: -1, Lift: 5}, "-lrpc"},
		{"out, a car on the lift, one here", api.Sensed{Height: 3, Ext: -1, Lift: 5, Here: true}, "-lrc"},
		{"out, a car on the lift, one behind", api.Sensed{Height: 3, Ext: -1, Lift: 5, ToLeft: true}, "-rpc"},
		{"far out to the left", api.Sensed{Height: 3, Ext: -2, Here: true}, "-rgc"},
		{"far out to the right", api.Sensed{Height: 3, Ext: 2, Here: true}, "-lgc"},
		{"far out, a car on the lift, one in front", api.Sensed{Height: 3, Ext: 2, Lift: 5, ToLeft: true}, "-pc"},
		{"at a level, open, people", api.Sensed{Height: 3, Door: true, People: 9}, "-lr"},
		{"farther out than can be", api.Sensed{Height: 3, Ext: 3}, "-lc"},
		{"much farther out", api.Sensed{Height: 3, Ext: 4}, "-c"},
		{"below the ground", api.Sensed{Height: -3, Lift: 5}, "-udc"},
	} {
		if got := allowed(c.s); got != c.want {
			t.Errorf("%s: %s, want %s", c.name, got, c.want)
		}
	}
}

// says: the promise, word by word.
func says(c byte, s api.Sensed) bool {
	level := s.Height > 0 && s.Height%3 == 0
	below := s.Height == 0 && s.Ext == 0
	closed := !s.Door && s.People == 0
	full, bay := s.Lift != 0, s.Bay != 0
	switch c {
	case '-':
		return true
	case 'u', 'd':
		return s.Ext == 0 && closed
	case 'l':
		return s.Ext >= -1 && s.Ext <= 3 && (s.Ext == 1 || level && !(full && s.ToLeft))
	case 'r':
		return s.Ext >= -3 && s.Ext <= 1 && (s.Ext == -1 || level && !(full && s.ToRight))
	case 'g':
		return level && s.Ext != 0 && !full && s.Here
	case 'p':
		return level && s.Ext != 0 && full && !s.Here
	case 'o':
		return below
	case 'c':
		return s.People == 0
	case 'n':
		return below && closed && !full && bay
	case 'x':
		return below && closed && full && !bay
	}
	return false
}

// eachSensed goes through all that can be seen, and some that can't.
func eachSensed(try func(api.Sensed)) {
	for _, height := range []int{math.MinInt, -3, 0, 1, 2, 3, 4, 6, 9, 12, 15, math.MaxInt} {
		for _, ext := range []int{math.MinInt, -4, -3, -2, -1, 0, 1, 2, 3, 4, math.MaxInt} {
			for _, people := range []int{0, 1, 9} {
				for bits := range 64 {
					is := func(k int) bool { return bits>>k&1 == 1 }
					try(api.Sensed{Height: height, Ext: ext, People: people, Lift: 7 * (bits & 1), Bay: 3 * (bits >> 1 & 1), Door: is(2), Here: is(3), ToLeft: is(4), ToRight: is(5)})
				}
			}
		}
	}
}

func TestC1Everywhere(t *testing.T) {
	eachSensed(func(s api.Sensed) {
		for _, c := range []byte(acts) {
			if got := May(c, s); got != says(c, s) {
				t.Fatalf("%c at %+v: %v", c, s, got)
			}
		}
	})
}

func TestC1NoOthers(t *testing.T) {
	for c := range 256 {
		c := byte(c)
		known := strings.IndexByte(acts, c) >= 0
		for _, s := range []api.Sensed{{}, {Bay: 1}, {Lift: 1}, {Height: 3}, {Height: 3, Ext: 1, Here: true}, {Height: 3, Ext: 1, Lift: 1}} {
			if !known && May(c, s) {
				t.Errorf("%q may be done at %+v", c, s)
			}
		}
	}
}
