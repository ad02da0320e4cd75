package turn

import (
	"testing"

	"coachhouse/api"
	"coachhouse/book"
	"coachhouse/desk"
	"coachhouse/plan"
	"coachhouse/plant"
	"coachhouse/tower"
)

// says: the promise H1, word by word.
func says(b api.Book, levels int, p *plant.Plant) outcome {
	s := p.Sense()
	spare := tower.Spare(levels)
	home := func(ticket int) api.Place { return b.Stays[book.Find(b, ticket)].Home }
	car := func(ticket int) int { return b.Stays[book.Find(b, ticket)].Car.ID }

	first := -1
	for i, j := range b.Jobs {
		if first < 0 && !j.Fetch && car(j.Ticket) == s.Bay {
			first = i
		}
	}
	if first < 0 && len(b.Jobs) > 0 {
		first = 0
	}
	blocks := func(stay int) bool {
		if first < 0 || !b.Jobs[first].Fetch {
			return false
		}
		h := home(b.Jobs[first].Ticket)
		return h.Depth == 1 && p.At(h) == car(b.Jobs[first].Ticket) && b.Stays[stay].Home == place(h.Level, h.Side, 0)
	}

	if s.Lift != 0 {
		i := book.Of(b, s.Lift)
		if i < 0 {
			return goals(plan.GiveOut())
		}
		if first >= 0 && b.Jobs[first] == fetch(b.Stays[i].Ticket) && s.Bay == 0 {
			return goals(plan.GiveOut())
		}
		h := b.Stays[i].Home
		if h.Depth == 1 && p.At(place(h.Level, h.Side, 0)) != 0 {
			return goals(plan.Bring(spare))
		}
		if blocks(i) {
			return goals(plan.Bring(spare))
		}
		return goals(plan.Bring(h))
	}
	if set := p.At(spare); set != 0 {
		if i := book.Of(b, set); i < 0 || !blocks(i) {
			return goals(plan.Fetch(spare))
		}
	}
	if first < 0 {
		if s.Door {
			return nothing
		}
		return goals(plan.Welcome())
	}
	j := b.Jobs[first]
	id := car(j.Ticket)
	if !j.Fetch {
		switch {
		case p.At(home(j.Ticket)) == id:
			return becomes(desk.Done(b, j, false))
		case s.Bay == id:
			return goals(plan.TakeIn())
		case !p.Has(id):
			return becomes(desk.Done(b, j, true))
		}
		return nothing
	}
	x, placed := p.Where(id)
	switch {
	case s.Bay == id, !p.Has(id):
		return becomes(desk.Done(b, j, false))
	case s.Bay != 0 && s.Door:
		return nothing
	case s.Bay != 0:
		return goals(plan.Welcome())
	case s.Door:
		return shut
	case placed && x.Depth == 1 && p.At(place(x.Level, x.Side, 0)) != 0:
		return goals(plan.Fetch(place(x.Level, x.Side, 0)))
	case placed:
		return goals(plan.Fetch(x))
	}
	return nothing
}

// spots of a machine of one level: its places, the lift and the bay (the levels 0 and -1).
var (
	onLift, inBay = place(0, 0, 0), place(-1, 0, 0)
	spots         = []api.Place{place(1, 0, 0), place(1, 0, 1), place(1, 1, 0), place(1, 1, 1), onLift, inBay}
)

// eachScene of so many cars: each somewhere, or nowhere; open, and shut.
func eachScene(n int, see func(scene)) {
	var fill func(id int, taken map[api.Place]int)
	fill = func(id int, taken map[api.Place]int) {
		if id > n {
			s := scene{cars: cars{}}
			for x, car := range taken {
				switch x {
				case onLift:
					s.lift = car
				case inBay:
					s.bay = car
				default:
					s.cars[x] = car
				}
			}
			see(s)
			s.shut = true
			see(s)
			return
		}
		fill(id+1, taken)
		for _, x := range spots {
			if taken[x] == 0 {
				taken[x] = id
				fill(id+1, taken)
				delete(taken, x)
			}
		}
	}
	fill(1, map[api.Place]int{})
}

// eachJobs: all lists of jobs of these tickets.
func eachJobs(tickets int, see func([]api.Job)) {
	var all []api.Job
	for i := range tickets {
		all = append(all, store(i+1), fetch(i+1))
	}
	var fill func(l []api.Job)
	fill = func(l []api.Job) {
		see(append([]api.Job(nil), l...))
		for _, j := range all {
			taken := false
			for _, k := range l {
				taken = taken || j == k
			}
			if !taken {
				fill(append(l, j))
			}
		}
	}
	fill(nil)
}

// eachBook of one level, of stays of some of these cars.
func eachBook(n int, see func(api.Book)) {
	small := api.Size{Long: 1, High: 1, Heavy: 1}
	places := tower.Places(1)
	see(api.Book{})
	for a := 1; a <= n; a++ {
		for i, x := range places {
			one := api.Stay{Ticket: 1, Car: api.Car{ID: a, Size: small}, Home: x}
			eachJobs(1, func(jobs []api.Job) { see(api.Book{Last: 1, Stays: []api.Stay{one}, Jobs: jobs}) })
			for b := 1; b <= n; b++ {
				if a == b {
					continue
				}
				two := api.Stay{Ticket: 2, Car: api.Car{ID: b, Size: small}, Home: places[1-i]}
				eachJobs(2, func(jobs []api.Job) { see(api.Book{Last: 2, Stays: []api.Stay{one, two}, Jobs: jobs}) })
			}
		}
	}
}

// TestH1Everywhere: of one level, wherever three cars are, by each book.
func TestH1Everywhere(t *testing.T) {
	var books []api.Book
	eachBook(3, func(b api.Book) {
		if err := book.Check(b, 1); err != nil {
			t.Fatalf("%+v: %v", b, err)
		}
		books = append(books, b)
	})
	scenes := 0
	eachScene(3, func(s scene) {
		scenes++
		p := machine(t, 1, s)
		for _, b := range books {
			if got, want := ask(b, 1, p), says(b, 1, p); !got.is(want) {
				t.Fatalf("%s in %+v: %+v, want %+v", book.Text(b), s, got, want)
			}
		}
	})
	if scenes < 300 || len(books) < 800 {
		t.Errorf("%d scenes and %d books only", scenes, len(books))
	}
}

// die: numbers that look drawn, the same each time.
type die uint64

func (d *die) n(most int) int {
	*d = *d*6364136223846793005 + 1442695040888963407
	return int(uint64(*d>>33) % uint64(most))
}

// drawn: a scene, and a book, of so many levels; most cars are at Home, or close to it.
func drawn(d *die, levels int) (scene, api.Book) {
	s := scene{cars: cars{}, shut: d.n(2) == 0}
	b := api.Book{Last: 99}
	for i, x := range tower.Places(levels) {
		id := i + 1
		if d.n(4) > 0 {
			b.Stays = append(b.Stays, api.Stay{Ticket: 2*id - d.n(2), Car: api.Car{ID: id, Size: api.Size{Long: 1, High: 1, Heavy: 1}}, Home: x})
		}
		switch d.n(12) {
		case 0:
			s.lift = id
		case 1:
			s.bay = id
		case 2:
			s.cars[tower.Spare(levels)] = id
		case 3:
			s.cars[place(levels, 1, 1)] = id
		case 4:
		default:
			s.cars[x] = id
		}
	}
	for range d.n(5) {
		if len(b.Stays) == 0 {
			break
		}
		j := api.Job{Ticket: b.Stays[d.n(len(b.Stays))].Ticket, Fetch: d.n(3) > 0}
		if next := (api.Book{Last: b.Last, Stays: b.Stays, Jobs: append(b.Jobs, j)}); book.Check(next, levels) == nil {
			b = next
		}
	}
	return s, b
}

// TestH1Drawn: of more levels.
func TestH1Drawn(t *testing.T) {
	d := die(10)
	for range 20000 {
		levels := 2 + d.n(3)
		s, b := drawn(&d, levels)
		if err := book.Check(b, levels); err != nil {
			t.Fatalf("%+v: %v", b, err)
		}
		p := machine(t, levels, s)
		if got, want := ask(b, levels, p), says(b, levels, p); !got.is(want) {
			t.Fatalf("%s of %d levels in %+v: %+v, want %+v", book.Text(b), levels, s, got, want)
		}
	}
}
