package turn

import (
	"reflect"
	"slices"
	"testing"

	"coachhouse/api"
	"coachhouse/book"
	"coachhouse/plan"
	"coachhouse/plant"
	"coachhouse/tower"
)

func place(level, side, depth int) api.Place {
	return api.Place{Level: level, Side: side, Depth: depth}
}

func fetch(ticket int) api.Job { return api.Job{Ticket: ticket, Fetch: true} }

func store(ticket int) api.Job { return api.Job{Ticket: ticket} }

// stay of the car that has the ticket's number eleven times over.
func stay(ticket int, home api.Place) api.Stay {
	return api.Stay{Ticket: ticket, Car: api.Car{ID: 11 * ticket, Size: api.Size{Long: 1, High: 1, Heavy: 1}}, Home: home}
}

// scene: how a machine is.
type scene struct {
	cars      map[api.Place]int
	lift, bay int
	shut      bool
	height    int // if it is shut
}

// machine of so many levels, as a scene has it. It may be hurt on the way: nothing is asked of that here.
func machine(t *testing.T, levels int, s scene) *plant.Plant {
	t.Helper()
	p, err := plant.New(levels)
	if err != nil {
		t.Fatal(err)
	}
	do := func(acts string, times int) {
		for range times {
			for _, c := range []byte(acts) {
				p.Step(c)
			}
		}
	}
	arrive := func(id int) {
		if err := p.Arrive(id); err != nil {
			t.Fatal(err)
		}
	}
	for x, id := range s.cars {
		arrive(id)
		out, in := "l", "r"
		if x.Side == 1 {
			out, in = in, out
		}
		do("cn", 1)
		do("u", api.Step*x.Level)
		do(out, x.Depth+1)
		do("p", 1)
		do(in, x.Depth+1)
		do("d", api.Step*x.Level)
		do("o", 1)
	}
	if s.lift != 0 {
		arrive(s.lift)
		do("cno", 1)
	}
	if s.bay != 0 {
		arrive(s.bay)
	}
	if s.shut {
		do("c", 1)
		do("u", s.height)
	}
	if got := p.Sense(); got.Lift != s.lift || got.Bay != s.bay || got.Door == s.shut || got.Height != s.height || got.Ext != 0 {
		t.Fatalf("%+v became %+v", s, got)
	}
	for x, id := range s.cars {
		if p.At(x) != id {
			t.Fatalf("%+v: the car %d is at %v", s, p.At(x), x)
		}
	}
	return p
}

// outcome of Next.
type outcome struct {
	goals   []api.Goal
	next    api.Book
	changed bool
}

func ask(b api.Book, levels int, p *plant.Plant) outcome {
	goals, next, changed := Next(b, levels, p)
	return outcome{goals, next, changed}
}

func (o outcome) is(w outcome) bool {
	return slices.Equal(o.goals, w.goals) && sameBook(o.next, w.next) && o.changed == w.changed
}

func sameBook(a, b api.Book) bool {
	return a.Last == b.Last && slices.Equal(a.Stays, b.Stays) && slices.Equal(a.Jobs, b.Jobs)
}

// The tower of the examples: two levels, so that its Spare is 2.1.0. The car 11 is behind the car 22, 33 is behind nobody
// yet, and 44 has the place in front of it.
var (
	home1, home2 = place(1, 0, 1), place(1, 0, 0)
	home3, home4 = place(2, 0, 1), place(2, 0, 0)
	spare        = place(2, 1, 0)
	deep         = place(2, 1, 1) // behind Spare, where no car stays
)

func four(jobs ...api.Job) api.Book {
	return api.Book{Last: 9, Stays: []api.Stay{stay(1, home1), stay(2, home2), stay(3, home3), stay(4, home4)}, Jobs: jobs}
}

// without the stay of a ticket, and with these jobs.
func without(ticket int, jobs ...api.Job) api.Book {
	b := four(jobs...)
	b.Stays = slices.DeleteFunc(b.Stays, func(s api.Stay) bool { return s.Ticket == ticket })
	return b
}

type cars = map[api.Place]int

var (
	nothing = outcome{}
	shut    = outcome{goals: []api.Goal{{Kind: api.GoShut}}}
)

func goals(l []api.Goal) outcome { return outcome{goals: l} }

func becomes(b api.Book) outcome { return outcome{next: b, changed: true} }

type example struct {
	name  string
	book  api.Book
	scene scene
	want  outcome
}

func check(t *testing.T, examples []example) {
	t.Helper()
	for _, e := range examples {
		if err := book.Check(e.book, 2); err != nil {
			t.Fatalf("%s: its book may not be: %v", e.name, err)
		}
		if got := ask(e.book, 2, machine(t, 2, e.scene)); !got.is(e.want) {
			t.Errorf("%s: %+v, want %+v", e.name, got, e.want)
		}
	}
}

func TestH1OnTheLift(t *testing.T) {
	out, home, aside := goals(plan.GiveOut()), func(x api.Place) outcome { return goals(plan.Bring(x)) }, goals(plan.Bring(spare))
	check(t, []example{
		{"no stay", four(), scene{lift: 99}, out},
		{"no stay, and an empty book", api.Book{}, scene{lift: 99, shut: true, height: 4}, out},
		{"no stay, and one in the bay", four(fetch(1)), scene{lift: 99, bay: 98}, out},
		{"it is fetched", four(fetch(3)), scene{lift: 33, shut: true}, out},
		{"it is fetched, its Home shut in", four(fetch(1)), scene{cars: cars{home2: 22}, lift: 11}, out},
		{"it is fetched, but the bay has another one", four(fetch(3)), scene{lift: 33, bay: 99}, home(home3)},
		{"it is fetched, but the bay has one that is to be put away", four(fetch(3), store(4)), scene{lift: 33, bay: 44}, home(home3)},
		{"it is fetched, but not first", four(fetch(2), fetch(3)), scene{lift: 33, shut: true}, home(home3)},
		{"it is put away", four(store(3)), scene{lift: 33, shut: true}, home(home3)},
		{"it is put away, then fetched", four(store(3), fetch(3)), scene{lift: 33, shut: true}, home(home3)},
		{"there is no job", four(), scene{lift: 22, shut: true, height: 6}, home(home2)},
		{"its Home is in front", four(), scene{cars: cars{home1: 11}, lift: 22}, home(home2)},
		{"its Home is behind, and shut in", four(), scene{cars: cars{home2: 22}, lift: 11}, aside},
		{"its Home is behind, and shut in by one without a stay", four(), scene{cars: cars{home2: 99}, lift: 11}, aside},
		{"its Home is behind, and shut in, and it is fetched, but the bay is full", four(fetch(1)), scene{cars: cars{home2: 22}, lift: 11, bay: 99}, aside},
		{"another Home is shut in", four(), scene{cars: cars{home4: 44}, lift: 11}, home(home1)},
		{"its Home in front has a car", four(), scene{cars: cars{home2: 99}, lift: 22}, home(home2)},
		{"it blocks", four(fetch(1)), scene{cars: cars{home1: 11}, lift: 22, shut: true}, aside},
		{"it blocks, and the bay is full", four(fetch(1)), scene{cars: cars{home1: 11}, lift: 22, bay: 99}, aside},
		{"it would block, but the other one isn't there", four(fetch(1)), scene{lift: 22}, home(home2)},
		{"it would block, but another one is there", four(fetch(1)), scene{cars: cars{home1: 99}, lift: 22}, home(home2)},
		{"it would block, but the other one is elsewhere", four(fetch(1)), scene{cars: cars{deep: 11}, lift: 22}, home(home2)},
		{"it would block, but not the first job", four(fetch(3), fetch(1)), scene{cars: cars{home1: 11, home3: 33}, lift: 22}, home(home2)},
		{"it would block, but the job puts away", four(store(1)), scene{cars: cars{home1: 11}, lift: 22}, home(home2)},
		{"it would block, but the bay's car comes first", four(fetch(1), store(4)), scene{cars: cars{home1: 11}, lift: 22, bay: 44}, home(home2)},
		{"the other side is fetched", four(fetch(3)), scene{cars: cars{home1: 11, home3: 33}, lift: 22}, home(home2)},
		{"ahead of one in Spare", four(fetch(3)), scene{cars: cars{spare: 44}, lift: 33, shut: true}, out},
	})
}

func TestH1InSpare(t *testing.T) {
	back := goals(plan.Fetch(spare))
	check(t, []example{
		{"no job", four(), scene{cars: cars{spare: 22}}, back},
		{"no stay", api.Book{}, scene{cars: cars{spare: 99}, shut: true}, back},
		{"no stay, while another one is fetched from behind", four(fetch(1)), scene{cars: cars{spare: 99, home1: 11}, shut: true}, back},
		{"it is behind that one", four(fetch(1)), scene{cars: cars{home1: 11, spare: 22}, shut: true}, goals(plan.Fetch(home1))},
		{"it is behind that one, the door is open", four(fetch(1)), scene{cars: cars{home1: 11, spare: 22}}, shut},
		{"it is behind that one, but gone", four(fetch(1)), scene{cars: cars{spare: 22}, bay: 11}, back},
		{"it is behind that one, but not first", four(fetch(3), fetch(1)), scene{cars: cars{home1: 11, home3: 33, spare: 22}}, back},
		{"it is behind another one", four(fetch(3)), scene{cars: cars{home1: 11, home3: 33, spare: 22}, shut: true}, back},
		{"it is in front itself", four(fetch(2)), scene{cars: cars{home1: 11, spare: 22}, shut: true}, back},
		{"it is behind itself", four(fetch(1)), scene{cars: cars{home2: 22, spare: 11}, shut: true}, back},
		{"its job puts away", four(store(1)), scene{cars: cars{home1: 11, spare: 22}}, back},
		{"the bay's car comes first", four(fetch(1), store(3)), scene{cars: cars{home1: 11, spare: 22}, bay: 33}, back},
		{"behind Spare is not in it", four(), scene{cars: cars{deep: 22}}, nothing},
	})
}

func TestH1NoJob(t *testing.T) {
	welcome := goals(plan.Welcome())
	check(t, []example{
		{"open", four(), scene{cars: cars{home1: 11}}, nothing},
		{"open, an empty book", api.Book{}, scene{}, nothing},
		{"open, one in the bay", four(), scene{bay: 99}, nothing},
		{"shut", four(), scene{shut: true}, welcome},
		{"shut, far above, one in the bay", api.Book{Last: 5}, scene{bay: 99, shut: true, height: 6}, welcome},
	})
}

func TestH1PutsAway(t *testing.T) {
	in := goals(plan.TakeIn())
	check(t, []example{
		{"in the bay", four(store(1)), scene{bay: 11}, in},
		{"in the bay, shut", four(store(1)), scene{bay: 11, shut: true, height: 2}, in},
		{"in the bay, a car is at its Home", four(store(1)), scene{cars: cars{home1: 99}, bay: 11}, in},
		{"at Home", four(store(1), fetch(1), fetch(2)), scene{cars: cars{home1: 11}}, becomes(four(fetch(1), fetch(2)))},
		{"at Home, one in the bay", four(store(1)), scene{cars: cars{home1: 11}, bay: 99, shut: true}, becomes(four())},
		{"at Home, in front", four(store(2)), scene{cars: cars{home2: 22}}, becomes(four())},
		{"gone", four(store(1), fetch(2), fetch(1)), scene{cars: cars{home2: 22}}, becomes(without(1, fetch(2)))},
		{"gone, another one at its Home", four(store(1)), scene{cars: cars{home1: 99}, shut: true}, becomes(without(1))},
		{"gone, another one in the bay", four(store(1)), scene{bay: 22}, becomes(without(1))},
		{"in another place", four(store(1)), scene{cars: cars{deep: 11}}, nothing},
		{"in another place, shut", four(store(1)), scene{cars: cars{home4: 11}, shut: true}, nothing},
		{"the bay's car comes first", four(fetch(2), store(1), store(3)), scene{cars: cars{home2: 22, home1: 11}, bay: 33}, in},
		{"the bay's car comes first, its fetching doesn't", four(store(1), fetch(3), store(3)), scene{cars: cars{home1: 11}, bay: 33}, in},
		{"the bay's car is fetched only", four(store(1), fetch(3)), scene{cars: cars{home1: 11}, bay: 33}, becomes(four(fetch(3)))},
		{"the bay's car has no job", four(store(1), store(2)), scene{cars: cars{home1: 11, home2: 22}, bay: 33}, becomes(four(store(2)))},
	})
}

func TestH1Fetches(t *testing.T) {
	welcome := goals(plan.Welcome())
	check(t, []example{
		{"in the bay", four(fetch(2), fetch(1)), scene{bay: 22}, becomes(without(2, fetch(1)))},
		{"in the bay, shut", four(fetch(2)), scene{cars: cars{home1: 11}, bay: 22, shut: true}, becomes(without(2))},
		{"in the bay, and to be put away again", four(fetch(2), store(2)), scene{bay: 22}, goals(plan.TakeIn())},
		{"gone", four(fetch(2), store(1), store(2)), scene{}, becomes(without(2, store(1)))},
		{"gone, another one in the bay", four(fetch(2)), scene{bay: 99, shut: true}, becomes(without(2))},
		{"gone, another one at its Home", four(fetch(2)), scene{cars: cars{home2: 99}, shut: true}, becomes(without(2))},
		{"another one in the bay", four(fetch(2)), scene{cars: cars{home2: 22}, bay: 99}, nothing},
		{"another one in the bay, shut", four(fetch(2)), scene{cars: cars{home2: 22}, bay: 99, shut: true, height: 3}, welcome},
		{"another one with a stay in the bay, shut", four(fetch(2), fetch(3)), scene{cars: cars{home2: 22}, bay: 33, shut: true}, welcome},
		{"open", four(fetch(2)), scene{cars: cars{home2: 22}}, shut},
		{"open, in a place behind, one in front", four(fetch(1)), scene{cars: cars{home1: 11, home2: 22}}, shut},
		{"in front", four(fetch(2)), scene{cars: cars{home1: 11, home2: 22}, shut: true}, goals(plan.Fetch(home2))},
		{"behind", four(fetch(1)), scene{cars: cars{home1: 11}, shut: true, height: 5}, goals(plan.Fetch(home1))},
		{"behind another one", four(fetch(1)), scene{cars: cars{home1: 11, home2: 22}, shut: true}, goals(plan.Fetch(home2))},
		{"behind one without a stay", four(fetch(1)), scene{cars: cars{home1: 11, home2: 99}, shut: true}, goals(plan.Fetch(home2))},
		{"one is in front of its Home, but it is elsewhere", four(fetch(1)), scene{cars: cars{home4: 11, home2: 22}, shut: true}, goals(plan.Fetch(home4))},
		{"elsewhere, behind another one", four(fetch(1)), scene{cars: cars{home3: 11, home4: 44}, shut: true}, goals(plan.Fetch(home4))},
		{"behind Spare", four(fetch(1)), scene{cars: cars{deep: 11}, shut: true}, goals(plan.Fetch(deep))},
	})
}

func TestH1SpareIsOfTheLevels(t *testing.T) {
	for levels := 1; levels <= api.MaxLevels; levels++ {
		b := api.Book{Last: 2, Stays: []api.Stay{stay(1, home1), stay(2, home2)}, Jobs: []api.Job{fetch(1)}}
		p := machine(t, levels, scene{cars: cars{home1: 11}, lift: 22, shut: true})
		if got, want := ask(b, levels, p), goals(plan.Bring(place(levels, 1, 0))); !got.is(want) {
			t.Errorf("%d levels: %+v, want %+v", levels, got, want)
		}
		for level := 1; level <= levels; level++ {
			x := place(level, 1, 0)
			p, want := machine(t, levels, scene{cars: cars{x: 22}}), nothing
			if level == levels {
				want = goals(plan.Fetch(x))
			}
			if got := ask(api.Book{}, levels, p); !got.is(want) {
				t.Errorf("%d levels, a car at %v: %+v, want %+v", levels, x, got, want)
			}
		}
	}
}

func TestZ1NoBookPanics(t *testing.T) {
	far := api.Place{Level: 1 << 62, Side: -1, Depth: 1}
	odd := []api.Book{
		{Jobs: []api.Job{fetch(1)}},
		{Jobs: []api.Job{store(1), store(1)}},
		{Last: -1, Stays: []api.Stay{{}, {}}, Jobs: []api.Job{store(0), fetch(0)}},
		{Stays: []api.Stay{stay(1, far), stay(1, far)}, Jobs: []api.Job{fetch(1)}},
		{Stays: []api.Stay{stay(1, api.Place{Depth: -1})}, Jobs: []api.Job{store(1)}},
		{Stays: make([]api.Stay, 100), Jobs: make([]api.Job, 100)},
	}
	for _, s := range []scene{{}, {lift: 11}, {bay: 11}, {shut: true}, {cars: cars{home1: 11}}, {cars: cars{spare: 11, home2: 22}, lift: 33, bay: 44}} {
		for _, b := range append(odd, four(fetch(1), store(2))) {
			for _, levels := range []int{-1 << 63, -1, 0, 1, 2, 4, 5, 1<<63 - 1} {
				got := ask(b, levels, machine(t, 2, s))
				if got.changed && len(got.goals) > 0 || !got.changed && !sameBook(got.next, api.Book{}) {
					t.Errorf("%+v of %d levels in %+v: %+v", b, levels, s, got)
				}
			}
		}
	}
}

func TestZ2NextOnlyLooks(t *testing.T) {
	for _, s := range []scene{{lift: 11}, {cars: cars{home1: 11}}, {cars: cars{spare: 11}}, {shut: true}, {bay: 11}} {
		p := machine(t, 2, s)
		twin := machine(t, 2, s)
		b := four(store(1), fetch(1), fetch(2))
		// What stands behind the lists in memory must be neither read nor written.
		b.Stays, b.Jobs = append(b.Stays, stay(5, deep))[:4], append(b.Jobs, fetch(5))[:3]
		kept := book.Copy(b)
		first, again := ask(b, 2, p), ask(b, 2, p)
		if !first.is(again) {
			t.Errorf("%+v: %+v, then %+v", s, first, again)
		}
		if !sameBook(b, kept) || b.Stays[:5][4] != stay(5, deep) || b.Jobs[:4][3] != fetch(5) {
			t.Errorf("%+v: the book is written into: %+v", s, b)
		}
		if p.Sense() != twin.Sense() || p.Hurt() != twin.Hurt() {
			t.Errorf("%+v: the machine is %+v", s, p.Sense())
		}
		for _, x := range []api.Place{home1, spare} {
			if p.At(x) != s.cars[x] {
				t.Errorf("%+v: the car %d is at %v", s, p.At(x), x)
			}
		}
		scribble(first)
		if !sameBook(b, kept) || !again.is(ask(b, 2, p)) {
			t.Errorf("%+v: what is told is not the caller's alone", s)
		}
	}
}

// scribble over what was told, and behind it.
func scribble(o outcome) {
	for i := range o.goals[:cap(o.goals)] {
		o.goals[:cap(o.goals)][i] = api.Goal{Kind: 77, N: 77}
	}
	for i := range o.next.Stays[:cap(o.next.Stays)] {
		o.next.Stays[:cap(o.next.Stays)][i] = api.Stay{Ticket: 77}
	}
	for i := range o.next.Jobs[:cap(o.next.Jobs)] {
		o.next.Jobs[:cap(o.next.Jobs)][i] = api.Job{Ticket: 77}
	}
}

func TestZ1NoOtherResults(t *testing.T) {
	_, next, changed := Next(four(fetch(1)), 2, machine(t, 2, scene{cars: cars{home1: 11}}))
	if changed || !reflect.DeepEqual(next, api.Book{}) {
		t.Errorf("%+v, %v", next, changed)
	}
	goals, _, changed := Next(four(fetch(1)), 2, machine(t, 2, scene{bay: 11}))
	if !changed || len(goals) > 0 {
		t.Errorf("%+v, %v", goals, changed)
	}
}

// TestH1TheMachineIsOfTheExamples: so that no example passes by a place that the tower hasn't.
func TestH1TheMachineIsOfTheExamples(t *testing.T) {
	if tower.Spare(2) != spare || slices.Contains(tower.Places(2), deep) {
		t.Fatal("the examples are of another tower")
	}
}
