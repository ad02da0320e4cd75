package plant

import (
	"math"
	"testing"

	"coachhouse/api"
)

func place(level, side, depth int) api.Place {
	return api.Place{Level: level, Side: side, Depth: depth}
}

func fresh(t *testing.T, levels int) *Plant {
	t.Helper()
	p, err := New(levels)
	if err != nil {
		t.Fatal(err)
	}
	return p
}

func do(p *Plant, acts string) {
	for _, c := range []byte(acts) {
		p.Step(c)
	}
}

// expect holds errors against each other as bare values: a wrapped one, or another type, is not the same.
func expect(t *testing.T, what any, got, want error) {
	t.Helper()
	if got != want {
		t.Errorf("%v: %v, want %v", what, got, want)
	}
}

// sees: what is sensed, and whether it is hurt.
func sees(t *testing.T, what string, p *Plant, want api.Sensed, hurt bool) {
	t.Helper()
	if got := p.Sense(); got != want {
		t.Errorf("%s: senses %+v, want %+v", what, got, want)
	}
	if p.Hurt() != hurt {
		t.Errorf("%s: hurt: %v", what, p.Hurt())
	}
}

// store a new car at a place of the level 1, and go back, open.
func store(t *testing.T, p *Plant, id int, out, back string) {
	t.Helper()
	expect(t, id, p.Arrive(id), nil)
	do(p, "cnuuu"+out+"p"+back+"dddo")
	if p.Hurt() || p.Sense().Lift != 0 {
		t.Fatalf("car %d could not be put away: %+v", id, p.Sense())
	}
}

func TestB1New(t *testing.T) {
	for _, levels := range []int{math.MinInt, -1, 0, api.MaxLevels + 1, math.MaxInt} {
		p, err := New(levels)
		expect(t, levels, err, api.ErrBound)
		if p != nil {
			t.Errorf("%d levels: a machine beside an error", levels)
		}
	}
	for levels := 1; levels <= api.MaxLevels; levels++ {
		p := fresh(t, levels)
		sees(t, "new", p, api.Sensed{Door: true}, false)
		for _, x := range everywhere {
			if p.At(x) != 0 {
				t.Errorf("a car at %v", x)
			}
		}
	}
}

func TestB1MachinesAreApart(t *testing.T) {
	p, q := fresh(t, 1), fresh(t, 1)
	store(t, p, 5, "l", "r")
	expect(t, "walk", p.Walk(3), nil)
	sees(t, "the other one", q, api.Sensed{Door: true}, false)
	if q.Has(5) {
		t.Error("the other one has the car")
	}
}

func TestB2End(t *testing.T) {
	outs := map[string]api.Place{"l": place(0, 0, 0), "ll": place(0, 0, 1), "r": place(0, 1, 0), "rr": place(0, 1, 1)}
	for level := 1; level <= api.MaxLevels; level++ {
		for out, x := range outs {
			p := fresh(t, api.MaxLevels)
			expect(t, "arrive", p.Arrive(9), nil)
			do(p, "cn")
			for range level {
				do(p, "uuu")
			}
			do(p, out+"p")
			x.Level = level
			if got, ok := p.Where(9); got != x || !ok {
				t.Errorf("put at the level %d by %s: at %v, %v", level, out, got, ok)
			}
			if got := p.At(x); got != 9 {
				t.Errorf("at %v: %d", x, got)
			}
			if p.Hurt() {
				t.Errorf("%s at the level %d hurt", out, level)
			}
		}
	}
}

func TestB2Sense(t *testing.T) {
	p := fresh(t, 1)
	store(t, p, 11, "ll", "rr")
	store(t, p, 22, "r", "l")
	expect(t, "arrive", p.Arrive(33), nil)
	expect(t, "walk", p.Walk(4), nil)
	sees(t, "below, people", p, api.Sensed{Door: true, People: 4, Bay: 33}, false)
	expect(t, "walk", p.Walk(-4), nil)
	do(p, "cnuu")
	sees(t, "below the level", p, api.Sensed{Height: 2, Lift: 33}, false)
	do(p, "u")
	sees(t, "in", p, api.Sensed{Height: 3, Lift: 33, ToRight: true}, false)
	do(p, "l")
	sees(t, "in front, side 0", p, api.Sensed{Height: 3, Ext: -1, Lift: 33, ToLeft: true}, false)
	do(p, "p")
	sees(t, "put", p, api.Sensed{Height: 3, Ext: -1, Here: true, ToLeft: true}, false)
	do(p, "l")
	sees(t, "behind, side 0", p, api.Sensed{Height: 3, Ext: -2, Here: true, ToRight: true}, false)
	do(p, "rr")
	sees(t, "in again", p, api.Sensed{Height: 3, ToLeft: true, ToRight: true}, false)
	do(p, "r")
	sees(t, "in front, side 1", p, api.Sensed{Height: 3, Ext: 1, Here: true}, false)
	do(p, "r")
	sees(t, "behind, side 1", p, api.Sensed{Height: 3, Ext: 2, ToLeft: true}, false)
}

func TestB2AtWhereHas(t *testing.T) {
	p := fresh(t, 2)
	store(t, p, 11, "ll", "rr")
	store(t, p, 22, "l", "r")
	expect(t, "arrive", p.Arrive(33), nil)
	do(p, "cn")
	do(p, "o")
	expect(t, "arrive", p.Arrive(44), nil)
	for id, x := range map[int]api.Place{11: place(1, 0, 1), 22: place(1, 0, 0)} {
		if got, ok := p.Where(id); got != x || !ok || p.At(x) != id || !p.Has(id) {
			t.Errorf("car %d: where %v, %v, there %d, has %v", id, got, ok, p.At(x), p.Has(id))
		}
	}
	for _, id := range []int{33, 44} {
		if got, ok := p.Where(id); got != (api.Place{}) || ok || !p.Has(id) {
			t.Errorf("car %d on the lift, or in the bay: where %v, %v, has %v", id, got, ok, p.Has(id))
		}
	}
	for _, id := range []int{0, 1, 55, -11, math.MinInt, math.MaxInt} {
		if got, ok := p.Where(id); got != (api.Place{}) || ok || p.Has(id) {
			t.Errorf("car %d: where %v, %v, has %v", id, got, ok, p.Has(id))
		}
	}
	for _, x := range []api.Place{{}, place(1, 1, 0), place(2, 0, 0), place(3, 0, 0), place(1, 0, 2), place(1, 0, -1), place(1, 2, 0), place(-1, 0, 0), place(math.MaxInt, math.MinInt, math.MaxInt)} {
		if got := p.At(x); got != 0 {
			t.Errorf("at %v: %d", x, got)
		}
	}
}

func TestB2HasNotNought(t *testing.T) {
	p := fresh(t, 1)
	if _, ok := p.Where(0); ok || p.Has(0) {
		t.Error("an empty lift, or bay, is taken for a car")
	}
}

func TestB3UpDown(t *testing.T) {
	for levels := 1; levels <= api.MaxLevels; levels++ {
		p := fresh(t, levels)
		do(p, "cd")
		sees(t, "down from below", p, api.Sensed{}, false)
		top := levels * api.Step
		for i := range top {
			do(p, "u")
			sees(t, "up", p, api.Sensed{Height: i + 1}, false)
		}
		do(p, "u")
		sees(t, "up from the top", p, api.Sensed{Height: top}, false)
		do(p, "d")
		sees(t, "down", p, api.Sensed{Height: top - 1}, false)
	}
}

func TestB3UpDownHurt(t *testing.T) {
	for _, c := range []byte{api.Up, api.Down} {
		p := fresh(t, 2)
		do(p, string(c))
		if !p.Hurt() || p.Sense().Height != map[byte]int{api.Up: 1}[c] {
			t.Errorf("%c with an open door: %v, %+v", c, p.Hurt(), p.Sense())
		}
		p = fresh(t, 2)
		do(p, "cuuul"+string(c))
		if !p.Hurt() || p.Sense().Height != map[byte]int{api.Up: 4, api.Down: 2}[c] {
			t.Errorf("%c with the shuttle out: %v, %+v", c, p.Hurt(), p.Sense())
		}
		p = crowded(t)
		do(p, string(c))
		if !p.Hurt() {
			t.Errorf("%c with people in the bay does not hurt", c)
		}
	}
	// Also where the lift can't go any farther.
	p := fresh(t, 1)
	do(p, "d")
	sees(t, "down from below, open", p, api.Sensed{Door: true}, true)
	p = fresh(t, 1)
	do(p, "cuuulu")
	sees(t, "up from the top, out", p, api.Sensed{Height: 3, Ext: -1}, true)
}

// crowded: shut, with one of the people in the bay, but not yet hurt.
func crowded(t *testing.T) *Plant {
	t.Helper()
	p := fresh(t, 2)
	expect(t, "walk", p.Walk(1), nil)
	do(p, "c")
	sees(t, "shut, with people", p, api.Sensed{People: 1}, true)
	p.hurt = false // the one way to a machine in which people alone can hurt
	return p
}

func TestB3LeftRight(t *testing.T) {
	for _, c := range []struct {
		acts string
		ext  int
		hurt bool
	}{
		{"cuuul", -1, false}, {"cuuull", -2, false}, {"cuuulll", -2, false},
		{"cuuur", 1, false}, {"cuuurr", 2, false}, {"cuuurrr", 2, false},
		{"cuuulr", 0, false}, {"cuuurll", -1, false},
		{"cl", -1, true}, {"cr", 1, true}, {"cul", -1, true}, {"cuur", 1, true}, {"cuuuul", -1, true},
		{"cuuuuuur", 1, false},
	} {
		p := fresh(t, 2)
		do(p, c.acts)
		if got := p.Sense().Ext; got != c.ext || p.Hurt() != c.hurt {
			t.Errorf("%s: ext %d, hurt %v", c.acts, got, p.Hurt())
		}
	}
}

func TestB3LeftRightInIsSafe(t *testing.T) {
	// Where there is no place the shuttle may come in, and staying out is no new harm.
	p := fresh(t, 1)
	do(p, "cll")
	p.hurt = false
	do(p, "l")
	if p.Hurt() || p.Sense().Ext != -2 {
		t.Error("going no farther than it reaches is nothing")
	}
	do(p, "r")
	if !p.Hurt() {
		t.Error("out, where there is no place, does not hurt")
	}
	p.hurt = false
	do(p, "r")
	if p.Hurt() || p.Sense().Ext != 0 {
		t.Error("coming in hurts")
	}
}

func TestB3LeftRightBump(t *testing.T) {
	for _, c := range []struct {
		out, back, bump string
		hurt            bool
	}{
		{"l", "r", "l", true}, {"r", "l", "r", true},
		{"ll", "rr", "l", false}, {"ll", "rr", "ll", true},
		{"rr", "ll", "r", false}, {"rr", "ll", "rr", true},
		{"l", "r", "rr", false}, {"r", "l", "ll", false},
	} {
		p := fresh(t, 1)
		store(t, p, 1, c.out, c.back)
		expect(t, "arrive", p.Arrive(2), nil)
		do(p, "cnuuu"+c.bump)
		if p.Hurt() != c.hurt {
			t.Errorf("a car at %s, one carried by %s: hurt %v", c.out, c.bump, p.Hurt())
		}
		q := fresh(t, 1)
		store(t, q, 1, c.out, c.back)
		do(q, "cuuu"+c.bump)
		if q.Hurt() {
			t.Errorf("a car at %s, an empty shuttle by %s: hurt", c.out, c.bump)
		}
	}
}

func TestB3BumpOnTheWayIn(t *testing.T) {
	p := fresh(t, 1)
	store(t, p, 1, "ll", "rr")
	store(t, p, 2, "l", "r")
	do(p, "cuuullg")
	sees(t, "grabbed from behind another one", p, api.Sensed{Height: 3, Ext: -2, Lift: 1, ToRight: true}, false)
	do(p, "r")
	sees(t, "through the one in front", p, api.Sensed{Height: 3, Ext: -1, Lift: 1, Here: true}, true)
}

func TestB3GrabPut(t *testing.T) {
	p := fresh(t, 1)
	store(t, p, 7, "l", "r")
	do(p, "cuuug")
	sees(t, "grab with the shuttle in", p, api.Sensed{Height: 3, ToLeft: true}, false)
	do(p, "rg")
	sees(t, "grab where there is none", p, api.Sensed{Height: 3, Ext: 1}, false)
	do(p, "p")
	sees(t, "put with none on the lift", p, api.Sensed{Height: 3, Ext: 1}, false)
	do(p, "llg")
	sees(t, "grab", p, api.Sensed{Height: 3, Ext: -1, Lift: 7}, false)
	if p.At(place(1, 0, 0)) != 0 || !p.Has(7) {
		t.Error("a car that was grabbed is on the lift alone")
	}
	do(p, "g")
	sees(t, "grab again", p, api.Sensed{Height: 3, Ext: -1, Lift: 7}, false)
	do(p, "rp")
	sees(t, "put with the shuttle in", p, api.Sensed{Height: 3, Lift: 7}, false)
	do(p, "dp")
	sees(t, "put between levels", p, api.Sensed{Height: 2, Lift: 7}, false)
	do(p, "urrp")
	sees(t, "put", p, api.Sensed{Height: 3, Ext: 2, Here: true}, false)
	if got, ok := p.Where(7); got != place(1, 1, 1) || !ok {
		t.Errorf("put at %v, %v", got, ok)
	}
}

func TestB3GrabPutOneOnly(t *testing.T) {
	p := fresh(t, 1)
	store(t, p, 1, "l", "r")
	expect(t, "arrive", p.Arrive(2), nil)
	do(p, "cnuuulg")
	if p.At(place(1, 0, 0)) != 1 || p.Sense().Lift != 2 {
		t.Errorf("grab with one on the lift: %+v", p.Sense())
	}
	do(p, "p")
	if p.At(place(1, 0, 0)) != 1 || p.Sense().Lift != 2 {
		t.Errorf("put where there is one: %+v", p.Sense())
	}
}

func TestB3GrabPutElsewhere(t *testing.T) {
	p := fresh(t, 1)
	expect(t, "arrive", p.Arrive(2), nil)
	do(p, "cnlpg")
	sees(t, "put below", p, api.Sensed{Ext: -1, Lift: 2}, true)
	do(p, "rulp")
	sees(t, "put between levels", p, api.Sensed{Height: 1, Ext: -1, Lift: 2}, true)
}

func TestB3OpenShut(t *testing.T) {
	p := fresh(t, 1)
	do(p, "o")
	sees(t, "open again", p, api.Sensed{Door: true}, false)
	do(p, "c")
	sees(t, "shut", p, api.Sensed{}, false)
	do(p, "c")
	sees(t, "shut again", p, api.Sensed{}, false)
	do(p, "o")
	sees(t, "open", p, api.Sensed{Door: true}, false)
	do(p, "cuo")
	sees(t, "open above", p, api.Sensed{Height: 1, Door: true}, true)
	p = fresh(t, 1)
	do(p, "cl")
	p.hurt = false
	do(p, "o")
	sees(t, "open with the shuttle out", p, api.Sensed{Ext: -1, Door: true}, true)
	p = fresh(t, 1)
	expect(t, "walk", p.Walk(2), nil)
	do(p, "o")
	sees(t, "open, with people", p, api.Sensed{Door: true, People: 2}, false)
	do(p, "c")
	sees(t, "shut, with people", p, api.Sensed{People: 2}, true)
}

func TestB3In(t *testing.T) {
	p := fresh(t, 1)
	do(p, "cn")
	sees(t, "in of none", p, api.Sensed{}, false)
	do(p, "o")
	expect(t, "arrive", p.Arrive(3), nil)
	do(p, "cn")
	sees(t, "in", p, api.Sensed{Lift: 3}, false)
	do(p, "n")
	sees(t, "in again", p, api.Sensed{Lift: 3}, false)
	do(p, "o")
	expect(t, "arrive", p.Arrive(4), nil)
	do(p, "cn")
	sees(t, "in with one on the lift", p, api.Sensed{Lift: 3, Bay: 4}, false)
	do(p, "x")
	sees(t, "out with one in the bay", p, api.Sensed{Lift: 3, Bay: 4}, false)
}

func TestB3Out(t *testing.T) {
	p := fresh(t, 1)
	do(p, "cx")
	sees(t, "out of none", p, api.Sensed{}, false)
	do(p, "o")
	expect(t, "arrive", p.Arrive(3), nil)
	do(p, "cx")
	sees(t, "out of none, one in the bay", p, api.Sensed{Bay: 3}, false)
	do(p, "nx")
	sees(t, "out", p, api.Sensed{Bay: 3}, false)
}

func TestB3InOutElsewhere(t *testing.T) {
	p := fresh(t, 1)
	expect(t, "arrive", p.Arrive(3), nil)
	do(p, "cun")
	sees(t, "in from above", p, api.Sensed{Height: 1, Bay: 3}, false)
	do(p, "dlnr")
	sees(t, "in with the shuttle out", p, api.Sensed{Bay: 3}, true)
	p = fresh(t, 1)
	expect(t, "arrive", p.Arrive(3), nil)
	do(p, "cnux")
	sees(t, "out from above", p, api.Sensed{Height: 1, Lift: 3}, false)
	do(p, "dlxr")
	sees(t, "out with the shuttle out", p, api.Sensed{Lift: 3}, true)
}

func TestB3InOutHurt(t *testing.T) {
	p := fresh(t, 1)
	expect(t, "arrive", p.Arrive(3), nil)
	do(p, "n")
	sees(t, "in, open", p, api.Sensed{Door: true, Lift: 3}, true)
	p = fresh(t, 1)
	expect(t, "arrive", p.Arrive(3), nil)
	do(p, "cnox")
	sees(t, "out, open", p, api.Sensed{Door: true, Bay: 3}, true)
	for _, c := range []byte{api.In, api.Out} {
		p = crowded(t)
		do(p, string(c))
		sees(t, "in or out, with people", p, api.Sensed{People: 1}, true)
		p = fresh(t, 1)
		do(p, string(c))
		sees(t, "in or out of none, open", p, api.Sensed{Door: true}, true)
		p = fresh(t, 1)
		do(p, "cu")
		p.open = true // without the hurt of an Open up here
		do(p, string(c))
		sees(t, "in or out above, open", p, api.Sensed{Height: 1, Door: true}, true)
	}
}

func TestB3HurtStays(t *testing.T) {
	p := fresh(t, 1)
	do(p, "u")
	do(p, "cd-o")
	sees(t, "after all is well again", p, api.Sensed{Door: true}, true)
}

func TestB3Others(t *testing.T) {
	p := fresh(t, 1)
	store(t, p, 1, "l", "r")
	expect(t, "arrive", p.Arrive(2), nil)
	do(p, "cnuuur")
	before := look(p)
	for c := range 256 {
		switch byte(c) {
		case api.Up, api.Down, api.Left, api.Right, api.Grab, api.Put, api.Open, api.Shut, api.In, api.Out:
			continue
		}
		p.Step(byte(c))
		if look(p) != before {
			t.Fatalf("byte %d does something", c)
		}
	}
}

func TestB3Stall(t *testing.T) {
	p := fresh(t, 1)
	expect(t, "stall", p.Stall(2), nil)
	do(p, "---c")
	sees(t, "stalled once", p, api.Sensed{Door: true}, false)
	do(p, "-u")
	sees(t, "stalled twice: what would hurt does not", p, api.Sensed{Door: true}, false)
	do(p, "c")
	sees(t, "done", p, api.Sensed{}, false)
	expect(t, "stall", p.Stall(1), nil)
	do(p, "?u")
	sees(t, "what nobody knows stalls, too", p, api.Sensed{Height: 1}, false)
}

func TestB4Walk(t *testing.T) {
	p := fresh(t, 1)
	for _, n := range []int{math.MinInt, -10, 10, math.MaxInt} {
		expect(t, n, p.Walk(n), api.ErrBound)
	}
	for _, c := range []struct{ n, people int }{{0, 0}, {2, 2}, {-1, 1}, {-9, 0}, {-1, 0}, {9, 9}, {1, 9}, {-3, 6}, {9, 9}, {-9, 0}} {
		expect(t, c.n, p.Walk(c.n), nil)
		sees(t, "walk", p, api.Sensed{Door: true, People: c.people}, false)
	}
	do(p, "c")
	for _, n := range []int{-9, -1, 0, 1, 9} {
		expect(t, n, p.Walk(n), api.ErrState)
	}
	expect(t, "out of bounds, and shut", p.Walk(10), api.ErrBound)
	sees(t, "nobody came", p, api.Sensed{}, false)
}

func TestB4Arrive(t *testing.T) {
	p := fresh(t, 1)
	for _, id := range []int{math.MinInt, -1, 0, api.MaxCar + 1, math.MaxInt} {
		expect(t, id, p.Arrive(id), api.ErrBound)
	}
	expect(t, "the last number", p.Arrive(api.MaxCar), nil)
	sees(t, "arrived", p, api.Sensed{Door: true, Bay: api.MaxCar}, false)
	expect(t, "a car in the bay", p.Arrive(5), api.ErrState)
	expect(t, "the same in the bay", p.Arrive(api.MaxCar), api.ErrState)
	expect(t, "out of bounds, a car in the bay", p.Arrive(0), api.ErrBound)
	do(p, "cn")
	expect(t, "shut", p.Arrive(5), api.ErrState)
	expect(t, "shut, and it is on the lift", p.Arrive(api.MaxCar), api.ErrState)
	do(p, "o")
	expect(t, "it is on the lift", p.Arrive(api.MaxCar), api.ErrExist)
	expect(t, "another one", p.Arrive(1), nil)
	sees(t, "both", p, api.Sensed{Door: true, Lift: api.MaxCar, Bay: 1}, false)
	q := fresh(t, 1)
	store(t, q, 6, "l", "r")
	expect(t, "it is in a place", q.Arrive(6), api.ErrExist)
	sees(t, "none", q, api.Sensed{Door: true}, false)
	expect(t, "another one", q.Arrive(7), nil)
}

func TestB4ArriveAmongPeople(t *testing.T) {
	p := fresh(t, 1)
	expect(t, "walk", p.Walk(3), nil)
	expect(t, "arrive", p.Arrive(7), nil)
	sees(t, "arrived", p, api.Sensed{Door: true, People: 3, Bay: 7}, false)
}

func TestB4Leave(t *testing.T) {
	p := fresh(t, 1)
	leave := func(what string, id int, want error) {
		t.Helper()
		got, err := p.Leave()
		expect(t, what, err, want)
		if got != id {
			t.Errorf("%s: %d left, want %d", what, got, id)
		}
	}
	leave("none in the bay", 0, api.ErrState)
	expect(t, "arrive", p.Arrive(8), nil)
	do(p, "c")
	leave("shut", 0, api.ErrState)
	sees(t, "it is there", p, api.Sensed{Bay: 8}, false)
	do(p, "o")
	leave("open", 8, nil)
	sees(t, "it left", p, api.Sensed{Door: true}, false)
	if p.Has(8) {
		t.Error("the machine has what left")
	}
	leave("again", 0, api.ErrState)
	expect(t, "it comes again", p.Arrive(8), nil)
}

func TestB4Stall(t *testing.T) {
	p := fresh(t, 1)
	do(p, "c")
	for _, n := range []int{math.MinInt, -1, api.MaxStall + 1, math.MaxInt} {
		expect(t, n, p.Stall(n), api.ErrBound)
	}
	do(p, "u")
	sees(t, "no stall that was refused", p, api.Sensed{Height: 1}, false)
	for n := 0; n <= api.MaxStall; n++ {
		expect(t, n, p.Stall(api.MaxStall), nil) // the last word counts, not the sum
		expect(t, n, p.Stall(n), nil)
		for range n {
			do(p, "d")
		}
		sees(t, "stalled", p, api.Sensed{Height: 1}, false)
		do(p, "d")
		sees(t, "stalls no more", p, api.Sensed{}, false)
		do(p, "u")
	}
	expect(t, "stall", p.Stall(1), nil)
	expect(t, "refused", p.Stall(-1), api.ErrBound)
	do(p, "u")
	sees(t, "a refused one takes nothing back", p, api.Sensed{Height: 1}, false)
}
