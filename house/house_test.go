package house

import (
	"fmt"
	"math"
	"slices"
	"testing"

	"coachhouse/api"
	"coachhouse/book"
	"coachhouse/disk"
	"coachhouse/ledger"
	"coachhouse/plan"
	"coachhouse/plant"
	"coachhouse/tower"
)

func place(level, side, depth int) api.Place {
	return api.Place{Level: level, Side: side, Depth: depth}
}

func size(n int) api.Size { return api.Size{Long: n, High: n, Heavy: n} }

func car(id, n int) api.Car { return api.Car{ID: id, Size: size(n)} }

func fetch(ticket int) api.Job { return api.Job{Ticket: ticket, Fetch: true} }

func store(ticket int) api.Job { return api.Job{Ticket: ticket} }

// expect holds errors against each other as bare values: a wrapped one, or another type, is not the same.
func expect(t *testing.T, what any, got, want error) {
	t.Helper()
	if got != want {
		t.Errorf("%v: %v, want %v", what, got, want)
	}
}

// rig: a house, and what it is made of.
type rig struct {
	t      *testing.T
	levels []api.Size
	plant  *plant.Plant
	disk   *disk.Disk
	house  *House
}

// build a rig with an empty book.
func build(t *testing.T, levels ...api.Size) *rig {
	t.Helper()
	p, err := plant.New(len(levels))
	if err != nil {
		t.Fatal(err)
	}
	r := &rig{t: t, levels: levels, plant: p, disk: formatted(t)}
	r.renew()
	return r
}

// small: two levels, of which the last one has more room.
func small(t *testing.T) *rig {
	t.Helper()
	return build(t, size(5), size(9))
}

func formatted(t *testing.T) *disk.Disk {
	t.Helper()
	d, err := disk.New(api.Sectors)
	if err != nil {
		t.Fatal(err)
	}
	expect(t, "format", ledger.Format(d), nil)
	return d
}

// renew: the house is made anew.
func (r *rig) renew() {
	r.t.Helper()
	h, err := New(r.levels, r.plant, r.disk)
	if err != nil {
		r.t.Fatal(err)
	}
	r.house = h
}

// write a book, past the house, and make that anew.
func (r *rig) write(b api.Book) {
	r.t.Helper()
	l, err := ledger.Open(r.disk, len(r.levels))
	if err != nil {
		r.t.Fatal(err)
	}
	expect(r.t, "keep", l.Keep(b), nil)
	r.renew()
}

func (r *rig) tick(n int) {
	r.t.Helper()
	for range n {
		expect(r.t, "tick", r.house.Tick(), nil)
	}
}

func (r *rig) arrive(id int) {
	r.t.Helper()
	expect(r.t, "arrive", r.plant.Arrive(id), nil)
}

// park the car that has just come.
func (r *rig) park(c api.Car) int {
	r.t.Helper()
	r.arrive(c.ID)
	ticket, err := r.house.Park(c)
	expect(r.t, "park", err, nil)
	return ticket
}

func (r *rig) want(ticket int) {
	r.t.Helper()
	expect(r.t, "want", r.house.Want(ticket), nil)
}

func (r *rig) leave(id int) {
	r.t.Helper()
	got, err := r.plant.Leave()
	if got != id || err != nil {
		r.t.Errorf("%d leaves, %v, want %d", got, err, id)
	}
}

// put cars away, in their order, and come to rest.
func (r *rig) put(all ...api.Car) {
	r.t.Helper()
	for _, c := range all {
		r.park(c)
		r.tick(60)
	}
}

// seen: height, Ext, door, people, lift and bay, as a session tells them.
func (r *rig) seen() string {
	s := r.plant.Sense()
	door := "shut"
	if s.Door {
		door = "open"
	}
	return fmt.Sprint(s.Height, " ", s.Ext, " ", door, " ", s.People, " ", s.Lift, " ", s.Bay)
}

func (r *rig) sees(what, want string) {
	r.t.Helper()
	if got := r.seen(); got != want {
		r.t.Errorf("%s: the machine is %s, want %s", what, got, want)
	}
	if r.plant.Hurt() {
		r.t.Errorf("%s: the machine is hurt", what)
	}
}

// places: which car is where.
func (r *rig) places() map[api.Place]int {
	m := map[api.Place]int{}
	for level := range r.levels {
		for side := range 2 {
			for depth := range 2 {
				if x := place(level+1, side, depth); r.plant.At(x) != 0 {
					m[x] = r.plant.At(x)
				}
			}
		}
	}
	return m
}

func (r *rig) stands(what string, want map[api.Place]int) {
	r.t.Helper()
	if got := r.places(); fmt.Sprint(got) != fmt.Sprint(want) {
		r.t.Errorf("%s: the cars are %v, want %v", what, got, want)
	}
}

func (r *rig) has(what string, want string) {
	r.t.Helper()
	if got := book.Text(r.house.Book()); got != want {
		r.t.Errorf("%s: the book is %s, want %s", what, got, want)
	}
	l, err := ledger.Open(r.disk, len(r.levels))
	if err != nil {
		r.t.Fatal(err)
	}
	if got := book.Text(l.Book()); got != want {
		r.t.Errorf("%s: the book on the disk is %s, want %s", what, got, want)
	}
}

func (r *rig) goals(what string, want ...api.Goal) {
	r.t.Helper()
	if got := r.house.Goals(); !slices.Equal(got, want) {
		r.t.Errorf("%s: the goals are %v, want %v", what, got, want)
	}
}

// all that can be seen of a rig.
func (r *rig) all() string {
	return fmt.Sprint(r.seen(), r.plant.Hurt(), r.places(), book.Text(r.house.Book()), r.house.Goals(), r.disk.Down())
}

// unchanged: a call must answer that error, and change nothing.
func (r *rig) unchanged(what string, want error, call func() error) {
	r.t.Helper()
	before := r.all()
	expect(r.t, what, call(), want)
	if after := r.all(); after != before {
		r.t.Errorf("%s: %s became %s", what, before, after)
	}
}

func TestH2New(t *testing.T) {
	down := formatted(t)
	down.Arm(0)
	_ = down.Flush()
	blank, _ := disk.New(api.Sectors)
	few, _ := disk.New(21)
	tall := formatted(t)
	l, err := ledger.Open(tall, 3)
	expect(t, "open", err, nil)
	expect(t, "keep", l.Keep(api.Book{Last: 1, Stays: []api.Stay{{Ticket: 1, Car: car(1, 1), Home: place(3, 0, 0)}}}), nil)
	two, three := []api.Size{size(1), size(2)}, []api.Size{size(1), size(1), size(1)}
	for _, c := range []struct {
		name   string
		levels []api.Size
		disk   *disk.Disk
		want   error
	}{
		{"all is well", two, formatted(t), nil},
		{"a book of three levels", three, tall, nil},
		{"a book of more levels", two, tall, api.ErrText},
		{"no levels", nil, formatted(t), api.ErrMany},
		{"five levels", make([]api.Size, 5), formatted(t), api.ErrMany},
		{"no size", []api.Size{size(0), size(1)}, formatted(t), api.ErrBound},
		{"a last one that is too small", []api.Size{size(2), size(1)}, formatted(t), api.ErrShape},
		{"no ledger", two, blank, api.ErrText},
		{"too few sectors", two, few, api.ErrText},
		{"a disk that is down", two, down, api.ErrDown},
		{"no levels ahead of a disk that is down", nil, down, api.ErrMany},
		{"a wrong shape ahead of no ledger", []api.Size{size(2), size(1)}, blank, api.ErrShape},
	} {
		p, err := plant.New(max(1, min(len(c.levels), 4)))
		expect(t, c.name, err, nil)
		before := p.Sense()
		h, err := New(c.levels, p, c.disk)
		expect(t, c.name, err, c.want)
		if (h != nil) != (err == nil) {
			t.Errorf("%s: %v beside %v", c.name, h, err)
		}
		if p.Sense() != before || p.Hurt() {
			t.Errorf("%s: the machine is moved", c.name)
		}
		if h != nil && len(h.Goals()) > 0 {
			t.Errorf("%s: it has goals: %v", c.name, h.Goals())
		}
	}
}

func TestH2NewHasTheLedger(t *testing.T) {
	r := small(t)
	r.has("at first", "0 0 0")
	r.park(car(11, 4))
	r.tick(2)
	r.goals("on the way", api.Goal{Kind: api.GoIn})
	was := r.house
	r.renew()
	r.has("anew", "1 1 1 1 11 4 4 4 1 0 1 1 0")
	r.goals("anew")
	r.sees("anew", "0 0 shut 0 11 0")
	if len(was.Goals()) == 0 {
		t.Error("the old one lost its goals")
	}
}

func TestZ2LevelsAreNotKept(t *testing.T) {
	levels := []api.Size{size(5), size(9), size(1)}
	p, err := plant.New(2)
	expect(t, "plant", err, nil)
	h, err := New(levels[:2], p, formatted(t))
	expect(t, "house", err, nil)
	if !slices.Equal(levels, []api.Size{size(5), size(9), size(1)}) {
		t.Errorf("written into: %v", levels)
	}
	levels[0], levels[1] = size(1), size(1)
	expect(t, "arrive", p.Arrive(7), nil)
	if _, err := h.Park(car(7, 5)); err != nil {
		t.Errorf("a car that fits: %v", err)
	}
	if got := h.Book().Stays[0].Home; got != place(1, 0, 1) {
		t.Errorf("it has %v", got)
	}
}

func TestZ2WhatIsToldIsTheCallers(t *testing.T) {
	r := small(t)
	r.park(car(11, 4))
	r.tick(1)
	before := r.all()
	b, g := r.house.Book(), r.house.Goals()
	b.Stays[0], b.Jobs[0] = api.Stay{}, api.Job{}
	for i := range g {
		g[i] = api.Goal{Kind: 77}
	}
	_, _, _ = append(b.Stays, api.Stay{}), append(b.Jobs, api.Job{}), append(g, api.Goal{})
	if got := r.all(); got != before {
		t.Errorf("%s became %s", before, got)
	}
	r.tick(60)
	r.stands("at last", map[api.Place]int{place(1, 0, 1): 11})
}

func TestH2Park(t *testing.T) {
	r := small(t)
	park := func(c api.Car) func() error {
		return func() error {
			ticket, err := r.house.Park(c)
			if err != nil && ticket != 0 {
				t.Errorf("the ticket %d beside %v", ticket, err)
			}
			return err
		}
	}
	r.unchanged("nobody is there", api.ErrState, park(car(11, 4)))
	r.unchanged("nobody is there, and no car", api.ErrState, park(api.Car{}))
	r.unchanged("nobody is there, and no size", api.ErrState, park(car(0, 4)))
	r.arrive(11)
	for _, id := range []int{12, 0, -11, math.MinInt, math.MaxInt} {
		r.unchanged("another one is there", api.ErrState, park(car(id, 4)))
	}
	r.unchanged("another one is there, and no size", api.ErrState, park(car(12, 0)))
	r.unchanged("no size", api.ErrBound, park(car(11, 0)))
	r.unchanged("too great a size", api.ErrBound, park(car(11, api.MaxSize+1)))
	r.unchanged("no room", api.ErrFull, park(car(11, 10)))
	if ticket, err := r.house.Park(car(11, 4)); ticket != 1 || err != nil {
		t.Errorf("%d, %v", ticket, err)
	}
	r.has("parked", "1 1 1 1 11 4 4 4 1 0 1 1 0")
	r.goals("parked")
	r.sees("parked", "0 0 open 0 0 11")
	r.unchanged("once more", api.ErrExist, park(car(11, 4)))
	r.unchanged("once more, and greater", api.ErrExist, park(car(11, 9)))
	r.tick(3)
	r.unchanged("on the lift", api.ErrState, park(car(11, 4)))
	r.tick(60)
	r.unchanged("in a place", api.ErrState, park(car(11, 4)))
	if got := r.park(car(22, 6)); got != 2 {
		t.Errorf("the ticket %d", got)
	}
	r.has("the next one", "2 2 1 1 11 4 4 4 1 0 1 2 22 6 6 6 2 0 1 2 0")
}

func TestH2ParkBehindAShutDoor(t *testing.T) {
	r := small(t)
	r.arrive(11)
	r.plant.Step(api.Shut)
	if ticket, err := r.house.Park(car(11, 4)); ticket != 1 || err != nil {
		t.Errorf("%d, %v", ticket, err)
	}
	r.tick(60)
	r.stands("at last", map[api.Place]int{place(1, 0, 1): 11})
}

func TestH2ParkWithoutRoom(t *testing.T) {
	r := build(t, size(9))
	r.put(car(1, 1), car(2, 1))
	r.arrive(3)
	r.unchanged("no place", api.ErrFull, func() error { _, err := r.house.Park(car(3, 1)); return err })
	r.write(api.Book{Last: api.MaxTicket})
	r.unchanged("no ticket", api.ErrFull, func() error { _, err := r.house.Park(car(3, 1)); return err })
	r.write(api.Book{Last: api.MaxTicket - 1})
	if ticket, err := r.house.Park(car(3, 1)); ticket != api.MaxTicket || err != nil {
		t.Errorf("%d, %v", ticket, err)
	}
}

// crowd: a book of four levels with so many stays, whose cars came, and left.
func crowd(n int, jobs ...api.Job) api.Book {
	b := api.Book{Last: n, Jobs: jobs}
	for i, x := range tower.Places(4)[:n] {
		b.Stays = append(b.Stays, api.Stay{Ticket: i + 1, Car: car(i+1, 1), Home: x})
	}
	return b
}

func TestH2ManyJobs(t *testing.T) {
	r := build(t, size(1), size(1), size(1), size(1))
	var jobs []api.Job
	for i := range api.MaxJobs {
		jobs = append(jobs, fetch(i+1))
	}
	r.write(crowd(10, jobs...))
	r.arrive(99)
	r.unchanged("park", api.ErrFull, func() error { _, err := r.house.Park(car(99, 1)); return err })
	r.unchanged("want", api.ErrFull, func() error { return r.house.Want(9) })
	r.unchanged("want what is wanted", api.ErrExist, func() error { return r.house.Want(8) })
	r.unchanged("want nothing", api.ErrNone, func() error { return r.house.Want(11) })
	r.write(crowd(10, jobs[1:]...))
	expect(t, "want", r.house.Want(10), nil)
	r.has("wanted", book.Text(crowd(10, append(jobs[1:], fetch(10))...)))
}

func TestH2Want(t *testing.T) {
	r := small(t)
	for _, ticket := range []int{math.MinInt, -1, 0, 1, math.MaxInt} {
		r.unchanged("nobody stays", api.ErrNone, func() error { return r.house.Want(ticket) })
	}
	r.park(car(11, 4))
	expect(t, "want", r.house.Want(1), nil)
	r.has("wanted", "1 1 2 1 11 4 4 4 1 0 1 1 0 1 1")
	r.goals("wanted")
	r.sees("wanted", "0 0 open 0 0 11")
	r.unchanged("once more", api.ErrExist, func() error { return r.house.Want(1) })
	for _, ticket := range []int{math.MinInt, -1, 0, 2, 11, math.MaxInt} {
		r.unchanged("another one", api.ErrNone, func() error { return r.house.Want(ticket) })
	}
	r.tick(100)
	r.sees("fetched", "0 0 open 0 0 11")
	r.unchanged("it stays no more", api.ErrNone, func() error { return r.house.Want(1) })
}

func TestH2TheDisksErrors(t *testing.T) {
	for _, steps := range []int{0, 1, 5, 12} {
		r := small(t)
		r.put(car(11, 4))
		r.arrive(22)
		text := book.Text(r.house.Book())
		r.disk.Arm(steps)
		ticket, err := r.house.Park(car(22, 4))
		if ticket != 0 || err != api.ErrDown {
			t.Errorf("park: %d, %v", ticket, err)
		}
		expect(t, "want", r.house.Want(1), api.ErrDown)
		r.disk.Restart(0)
		r.renew()
		r.has("anew", text)
		r.disk.Arm(steps)
		expect(t, "want", r.house.Want(1), api.ErrDown)
		r.disk.Restart(0)
		r.renew()
		r.has("anew", text)
		r.sees("anew", "0 0 open 0 0 22")
	}
}

func TestH2WhatIsKeptIsKeptForGood(t *testing.T) {
	r := small(t)
	r.park(car(11, 4))
	r.disk.Restart(0)
	r.renew()
	r.has("parked", "1 1 1 1 11 4 4 4 1 0 1 1 0")
	r.want(1)
	r.disk.Restart(0)
	r.renew()
	r.has("wanted", "1 1 2 1 11 4 4 4 1 0 1 1 0 1 1")
	r.tick(100)
	r.disk.Restart(0)
	r.renew()
	r.has("fetched", "1 0 0")
}

// TestH3TickByTick: what each tick does while a car is put away behind, at the level 1.
func TestH3TickByTick(t *testing.T) {
	r := small(t)
	r.park(car(11, 4))
	in, bring, welcome := plan.TakeIn(), plan.Bring(place(1, 0, 1)), plan.Welcome()
	for i, c := range []struct {
		seen  string
		goals []api.Goal
	}{
		{"0 0 shut 0 0 11", in[1:]},
		{"0 0 shut 0 11 0", in[3:]},
		{"0 0 shut 0 11 0", nil}, // all that was left is so: that is all of a tick
		{"1 0 shut 0 11 0", bring[2:]},
		{"2 0 shut 0 11 0", bring[2:]},
		{"3 0 shut 0 11 0", bring[2:]},
		{"3 -1 shut 0 11 0", bring[3:]},
		{"3 -2 shut 0 11 0", bring[3:]},
		{"3 -2 shut 0 0 0", bring[4:]},
		{"3 -1 shut 0 0 0", bring[5:]},
		{"3 0 shut 0 0 0", bring[5:]},
		{"3 0 shut 0 0 0", nil},
		{"3 0 shut 0 0 0", nil}, // the book is changed
		{"2 0 shut 0 0 0", welcome[2:]},
		{"1 0 shut 0 0 0", welcome[2:]},
		{"0 0 shut 0 0 0", welcome[2:]},
		{"0 0 open 0 0 0", welcome[3:]},
		{"0 0 open 0 0 0", nil},
		{"0 0 open 0 0 0", nil},
	} {
		r.tick(1)
		r.sees(fmt.Sprint("tick ", i+1), c.seen)
		r.goals(fmt.Sprint("tick ", i+1), c.goals...)
		jobs := " 1 0"
		if i >= 12 {
			jobs = ""
		}
		r.has(fmt.Sprint("tick ", i+1), fmt.Sprint("1 1 ", len(jobs)/4, " 1 11 4 4 4 1 0 1", jobs))
	}
}

func TestH3WhatMayNotBeDoneIsDropped(t *testing.T) {
	r := small(t)
	r.park(car(11, 4))
	expect(t, "walk", r.plant.Walk(2), nil)
	for range 5 {
		r.tick(1)
		r.goals("people are there")
		r.sees("people are there", "0 0 open 2 0 11")
	}
	expect(t, "walk", r.plant.Walk(-1), nil)
	r.tick(1)
	r.sees("one is there", "0 0 open 1 0 11")
	expect(t, "walk", r.plant.Walk(-1), nil)
	r.tick(1)
	r.sees("nobody is there", "0 0 shut 0 0 11")
	r.goals("nobody is there", plan.TakeIn()[1:]...)
}

// TestH3TheCarIsGone: while the goals are on their way the car leaves; they are dropped where they can't be.
func TestH3TheCarIsGone(t *testing.T) {
	r := small(t)
	r.park(car(11, 4))
	expect(t, "stall", r.plant.Stall(1), nil)
	r.tick(1)
	r.goals("stalled", plan.TakeIn()[1:]...)
	r.sees("stalled", "0 0 open 0 0 11")
	r.leave(11)
	r.tick(1)
	r.goals("shut", plan.TakeIn()[1:]...)
	r.tick(1)
	r.goals("nobody is there")
	r.sees("nobody is there", "0 0 shut 0 0 0")
	r.has("not yet", "1 1 1 1 11 4 4 4 1 0 1 1 0")
	r.tick(1)
	r.has("gone", "1 0 0")
	r.tick(2)
	r.sees("at last", "0 0 open 0 0 0")
}

func TestH3GoalsAreFollowedToTheirEnd(t *testing.T) {
	r := small(t)
	r.put(car(11, 4), car(22, 4))
	r.want(2)
	r.tick(1)
	r.tick(2)
	r.goals("on the way to 22", plan.Fetch(place(1, 0, 0))[2:]...)
	r.want(1)
	r.tick(1)
	r.goals("on the way to 22, and 11 is wanted", plan.Fetch(place(1, 0, 0))[2:]...)
}

func TestH3Stalls(t *testing.T) {
	r := small(t)
	r.park(car(11, 4))
	expect(t, "stall", r.plant.Stall(api.MaxStall), nil)
	for range api.MaxStall {
		r.tick(1)
		r.sees("stalled", "0 0 open 0 0 11")
		r.goals("stalled", plan.TakeIn()[1:]...)
	}
	r.tick(1)
	r.sees("no more", "0 0 shut 0 0 11")
}

// TestH3RestIsNoStep: where nothing is to be done nothing is: a machine that stalls goes on stalling.
func TestH3RestIsNoStep(t *testing.T) {
	r := small(t)
	expect(t, "stall", r.plant.Stall(1), nil)
	r.tick(20)
	r.park(car(11, 4))
	r.tick(1)
	r.sees("stalled", "0 0 open 0 0 11")
	r.tick(1)
	r.sees("no more", "0 0 shut 0 0 11")
}

func TestH3TheDisksErrors(t *testing.T) {
	for _, steps := range []int{0, 3, 12} {
		r := small(t)
		r.park(car(11, 4))
		r.tick(12)
		r.sees("at Home", "3 0 shut 0 0 0")
		r.disk.Arm(steps)
		expect(t, "tick", r.house.Tick(), api.ErrDown)
		r.sees("down", "3 0 shut 0 0 0")
		r.goals("down")
		r.disk.Restart(0)
		r.renew()
		r.has("anew", "1 1 1 1 11 4 4 4 1 0 1 1 0")
		r.tick(1)
		r.has("anew", "1 1 0 1 11 4 4 4 1 0 1")
		r.tick(10)
		r.sees("at last", "0 0 open 0 0 0")
	}
}

// TestH3TheExample: the document's session, as far as this layer has it.
func TestH3TheExample(t *testing.T) {
	r := small(t)
	r.park(car(11, 4))
	r.tick(40)
	r.park(car(22, 3))
	r.tick(40)
	r.stands("two", map[api.Place]int{place(1, 0, 0): 22, place(1, 0, 1): 11})
	r.has("two", "2 2 0 1 11 4 4 4 1 0 1 2 22 3 3 3 1 0 0")
	r.want(1)
	r.tick(8)
	r.sees("the one in front", "3 0 shut 0 22 0")
	r.tick(60)
	r.sees("fetched", "0 0 open 0 0 11")
	r.stands("fetched", map[api.Place]int{place(1, 0, 0): 22})
	r.leave(11)
	r.tick(60)
	r.stands("left", map[api.Place]int{place(1, 0, 0): 22})
	r.has("left", "2 1 0 2 22 3 3 3 1 0 0")
	if got := r.park(car(33, 7)); got != 3 {
		t.Errorf("the ticket %d", got)
	}
	expect(t, "come", r.plant.Walk(2), nil)
	r.tick(30)
	r.sees("people", "0 0 open 2 0 33")
	expect(t, "go", r.plant.Walk(-9), nil)
	expect(t, "stall", r.plant.Stall(2), nil)
	r.tick(60)
	r.stands("three", map[api.Place]int{place(1, 0, 0): 22, place(2, 0, 1): 33})
	r.disk.Restart(0)
	r.renew()
	r.want(3)
	expect(t, "want", r.house.Want(3), api.ErrExist)
	r.tick(60)
	r.sees("33", "0 0 open 0 0 33")
	r.leave(33)
	if got := r.park(car(44, 2)); got != 4 {
		t.Errorf("the ticket %d", got)
	}
	r.leave(44)
	r.tick(20)
	r.has("at last", "4 1 0 2 22 3 3 3 1 0 0")
	_, err := r.house.Park(car(9, 9))
	expect(t, "park", err, api.ErrState)
	expect(t, "want", r.house.Want(9), api.ErrNone)
}

// TestZ1AMachineOfOtherLevels: nothing is said of it, but that every call ends.
func TestZ1AMachineOfOtherLevels(t *testing.T) {
	for _, levels := range []int{1, 4} {
		p, err := plant.New(levels)
		expect(t, "plant", err, nil)
		h, err := New([]api.Size{size(5), size(5)}, p, formatted(t))
		expect(t, "house", err, nil)
		for id := range 5 {
			_ = p.Arrive(id + 1)
			_, _ = h.Park(car(id+1, 1))
			for range 50 {
				_ = h.Tick()
			}
			_ = h.Want(id)
		}
		if p.Hurt() {
			t.Errorf("%d levels: hurt", levels)
		}
	}
}
