package plan

import (
	"fmt"
	"math"
	"slices"
	"testing"

	"coachhouse/api"
	"coachhouse/goal"
	"coachhouse/guard"
	"coachhouse/plant"
)

func place(level, side, depth int) api.Place {
	return api.Place{Level: level, Side: side, Depth: depth}
}

// begin: what each plan begins with.
func begin(height int, then ...api.Goal) []api.Goal {
	return append([]api.Goal{{Kind: api.GoReach}, {Kind: api.GoShut}, {Kind: api.GoHeight, N: height}}, then...)
}

func expect(t *testing.T, what any, got, want []api.Goal) {
	t.Helper()
	if !slices.Equal(got, want) {
		t.Errorf("%v: %v, want %v", what, got, want)
	}
}

func TestD2FetchBring(t *testing.T) {
	for level := 1; level <= api.MaxLevels; level++ {
		for x, ext := range map[api.Place]int{place(level, 0, 0): -1, place(level, 0, 1): -2, place(level, 1, 0): 1, place(level, 1, 1): 2} {
			there, in := api.Goal{Kind: api.GoReach, N: ext}, api.Goal{Kind: api.GoReach}
			expect(t, x, Fetch(x), begin(3*level, there, api.Goal{Kind: api.GoGrab}, in))
			expect(t, x, Bring(x), begin(3*level, there, api.Goal{Kind: api.GoPut}, in))
		}
	}
}

func TestD2Others(t *testing.T) {
	expect(t, "take in", TakeIn(), begin(0, api.Goal{Kind: api.GoIn}))
	expect(t, "give out", GiveOut(), begin(0, api.Goal{Kind: api.GoOut}, api.Goal{Kind: api.GoOpen}))
	expect(t, "welcome", Welcome(), begin(0, api.Goal{Kind: api.GoOpen}))
}

func TestZ1EveryCallEnds(t *testing.T) {
	for _, n := range []int{math.MinInt, -1, 0, 5, math.MaxInt} {
		Fetch(place(n, n, n))
		Bring(place(n, n, n))
	}
}

func TestZ2PlansAreFresh(t *testing.T) {
	x := place(2, 1, 1)
	for i, build := range []func() []api.Goal{TakeIn, GiveOut, Welcome, func() []api.Goal { return Fetch(x) }, func() []api.Goal { return Bring(x) }} {
		a, b := build(), build()
		want := slices.Clone(b)
		for j := range a {
			a[j] = api.Goal{Kind: 99, N: 99}
		}
		_ = append(a, api.Goal{Kind: 99})
		expect(t, i, b, want)
		expect(t, i, build(), want)
	}
}

// follow goals, as far as what is to be done may be done: did all come to be so?
func follow(p *plant.Plant, goals []api.Goal) bool {
	for _, g := range goals {
		for steps := 0; ; steps++ {
			if steps > 99 { // more than any goal takes, stalls and all
				return false
			}
			s := p.Sense()
			c, done := goal.Next(g, s)
			if done {
				break
			}
			if !guard.May(c, s) {
				return false
			}
			p.Step(c)
		}
	}
	return true
}

// spots: where each car is: in a place, on the lift (the level -1), or in the bay (the level -2).
func spots(p *plant.Plant, cars int) []api.Place {
	l := make([]api.Place, cars+1)
	for id := 1; id <= cars; id++ {
		x, ok := p.Where(id)
		switch {
		case ok:
			l[id] = x
		case p.Sense().Lift == id:
			l[id] = lift
		case p.Sense().Bay == id:
			l[id] = bay
		}
	}
	return l
}

var lift, bay = place(-1, 0, 0), place(-2, 0, 0)

// scene: how a machine is, ahead of a plan.
type scene struct {
	places    []api.Place // of the cars from 1 on
	lift, bay bool        // is there one more on the lift, and one more in the bay?
	height    int
	ext       int
	open      bool
	stall     int
}

// set: a machine of two levels as the scene wants it, or none, if it can't be so without harm.
func (s scene) set(t *testing.T) (p *plant.Plant, cars int) {
	t.Helper()
	p, err := plant.New(2)
	if err != nil {
		t.Fatal(err)
	}
	arrive := func() {
		cars++
		if err := p.Arrive(cars); err != nil {
			t.Fatal(err)
		}
	}
	for _, x := range s.places {
		arrive()
		if !follow(p, TakeIn()) || !follow(p, Bring(x)) || !follow(p, Welcome()) {
			t.Fatalf("no car can be brought to %v", x)
		}
	}
	if s.lift {
		arrive()
		if !follow(p, TakeIn()) || !follow(p, Welcome()) {
			t.Fatal("no car can be taken in")
		}
	}
	if s.bay {
		arrive()
	}
	if !s.open && !follow(p, []api.Goal{{Kind: api.GoShut}, {Kind: api.GoHeight, N: s.height}, {Kind: api.GoReach, N: s.ext}}) {
		return nil, 0
	}
	if err := p.Stall(s.stall); err != nil {
		t.Fatal(err)
	}
	return p, cars
}

func scenes() []scene {
	var l []scene
	for _, places := range [][]api.Place{
		{},
		{place(1, 0, 0)},
		{place(1, 0, 1), place(1, 0, 0)},
		{place(1, 0, 1), place(2, 1, 1), place(2, 1, 0)},
		{place(1, 0, 1), place(1, 0, 0), place(1, 1, 1), place(1, 1, 0), place(2, 0, 1), place(2, 0, 0), place(2, 1, 1), place(2, 1, 0)},
	} {
		for bits := range 4 {
			s := scene{places: places, lift: bits&1 == 1, bay: bits&2 == 2, open: true}
			l = append(l, s)
			s.open = false
			for _, s.height = range []int{0, 1, 3, 5, 6} {
				for _, s.ext = range []int{-2, -1, 0, 1, 2} {
					s.stall = (s.height + s.ext + 2) % 6
					if s.ext == 0 || s.height%3 == 0 && s.height > 0 {
						l = append(l, s)
					}
				}
			}
		}
	}
	return l
}

// attempt a plan in a scene: nothing but the car that it moves from one spot to the other may have moved, and if the plan
// can be followed to its end, it is there.
func attempt(t *testing.T, s scene, what string, goals []api.Goal, from, to api.Place) (moved bool) {
	t.Helper()
	p, cars := s.set(t)
	if p == nil {
		return false
	}
	before := spots(p, cars)
	ended := follow(p, goals)
	after := spots(p, cars)
	for id := range before {
		if before[id] == after[id] {
			continue
		}
		if before[id] != from || after[id] != to || moved {
			t.Fatalf("%s in %+v: the car %d went from %v to %v", what, s, id, before[id], after[id])
		}
		moved = true
	}
	if wanted := slices.Contains(before, from) && !slices.Contains(before, to); from != to && ended && wanted && !moved {
		t.Fatalf("%s in %+v: no car moved from %v to %v", what, s, from, to)
	}
	if ended && p.Sense().Ext != 0 || p.Hurt() {
		t.Fatalf("%s in %+v: at last %+v, hurt %v", what, s, p.Sense(), p.Hurt())
	}
	return moved
}

func TestW5PlansMoveTheOneCar(t *testing.T) {
	moves := map[string]int{}
	for _, s := range scenes() {
		count := func(what string, goals []api.Goal, from, to api.Place) {
			if attempt(t, s, what, goals, from, to) {
				moves[what[:1]]++
			}
		}
		for level := 1; level <= 2; level++ {
			for _, x := range []api.Place{place(level, 0, 0), place(level, 0, 1), place(level, 1, 0), place(level, 1, 1)} {
				count(fmt.Sprint("Fetch ", x), Fetch(x), x, lift)
				count(fmt.Sprint("Bring to ", x), Bring(x), lift, x)
			}
		}
		count("TakeIn", TakeIn(), bay, lift)
		count("GiveOut", GiveOut(), lift, bay)
		attempt(t, s, "Welcome", Welcome(), bay, bay)
	}
	for _, what := range []string{"F", "B", "T", "G"} {
		if moves[what] < 50 {
			t.Errorf("%s: %d moves only", what, moves[what])
		}
	}
}

func TestW5TheyComeToAnEnd(t *testing.T) {
	for _, s := range scenes() {
		if p, _ := s.set(t); p != nil && p.Sense().Ext == 0 {
			if !follow(p, Welcome()) || p.Sense().Height != 0 || !p.Sense().Door {
				t.Errorf("%+v: not welcome: %+v", s, p.Sense())
			}
		}
	}
	p, cars := scene{places: []api.Place{place(1, 0, 1)}, bay: true, open: true}.set(t)
	x := place(1, 0, 1)
	for _, step := range []struct {
		goals []api.Goal
		want  []api.Place
	}{
		{TakeIn(), []api.Place{{}, x, lift}},
		{Bring(place(2, 1, 1)), []api.Place{{}, x, place(2, 1, 1)}},
		{Fetch(x), []api.Place{{}, lift, place(2, 1, 1)}},
		{GiveOut(), []api.Place{{}, bay, place(2, 1, 1)}},
	} {
		if !follow(p, step.goals) || !slices.Equal(spots(p, cars), step.want) || p.Sense().Ext != 0 {
			t.Fatalf("%v: %v, want %v; %+v", step.goals, spots(p, cars), step.want, p.Sense())
		}
	}
	if !p.Sense().Door {
		t.Error("given out, but shut")
	}
}

func TestW5PeopleStopThem(t *testing.T) {
	p, cars := scene{places: []api.Place{place(1, 0, 1)}, bay: true, open: true}.set(t)
	if err := p.Walk(1); err != nil {
		t.Fatal(err)
	}
	before := spots(p, cars)
	for _, goals := range [][]api.Goal{TakeIn(), GiveOut(), Welcome(), Fetch(place(1, 0, 1)), Bring(place(1, 0, 0))} {
		if follow(p, goals) || !slices.Equal(spots(p, cars), before) || p.Hurt() || !p.Sense().Door {
			t.Errorf("%v, with people: %+v, hurt %v", goals, p.Sense(), p.Hurt())
		}
	}
}
