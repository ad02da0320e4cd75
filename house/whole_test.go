package house

import (
	"fmt"
	"slices"
	"testing"

	"coachhouse/api"
	"coachhouse/book"
	"coachhouse/plant"
	"coachhouse/tower"
)

// state: all that a house and its machine are.
type state struct {
	seen  api.Sensed
	cars  [4 * api.MaxLevels]int
	book  string
	goals [6]api.Goal
	left  int // of the goals
}

func spot(x api.Place) int { return 4*(x.Level-1) + 2*x.Side + x.Depth }

// world: where states are gone to. A house and a machine are set up anew for each move.
type world struct {
	t       *testing.T
	levels  []api.Size
	cars    int // so many may come
	tickets int // so many are given
	rig     *rig
	books   map[string]api.Book
}

func newWorld(t *testing.T, levels, cars, tickets int) *world {
	w := &world{t: t, cars: cars, tickets: tickets, books: map[string]api.Book{}}
	for i := range levels {
		w.levels = append(w.levels, size(i+1))
	}
	w.rig = build(t, w.levels...)
	return w
}

// look at the house and its machine.
func (w *world) look() state {
	r := w.rig
	b := r.house.Book()
	s := state{seen: r.plant.Sense(), book: book.Text(b), left: len(r.house.goals)}
	w.books[s.book] = b
	copy(s.goals[:], r.house.goals)
	for level := range w.levels {
		for side := range 2 {
			for depth := range 2 {
				x := place(level+1, side, depth)
				s.cars[spot(x)] = r.plant.At(x)
			}
		}
	}
	return s
}

// set the house and its machine to a state, without harm.
func (w *world) set(s state) {
	w.t.Helper()
	p, err := plant.New(len(w.levels))
	if err != nil {
		w.t.Fatal(err)
	}
	w.fill(p, s)
	h := w.rig.house
	w.rig.plant, h.plant = p, p
	if book.Text(h.Book()) != s.book {
		if err := h.ledger.Keep(w.books[s.book]); err != nil {
			w.t.Fatal(err)
		}
	}
	h.goals = slices.Clone(s.goals[:s.left])
	if got := w.look(); got != s || p.Hurt() {
		w.t.Fatalf("%+v was set to %+v, hurt %v", s, got, p.Hurt())
	}
}

// fill a new machine, so that it is as in a state.
func (w *world) fill(p *plant.Plant, s state) {
	do := func(c byte, times int) {
		for range times {
			p.Step(c)
		}
	}
	take := func(id int) {
		if err := p.Arrive(id); err != nil {
			w.t.Fatal(err)
		}
		do(api.Shut, 1)
		do(api.In, 1)
	}
	bring := func(id int, x api.Place) {
		out, in := byte(api.Left), byte(api.Right)
		if x.Side == 1 {
			out, in = in, out
		}
		take(id)
		do(api.Up, api.Step*x.Level)
		do(out, x.Depth+1)
		do(api.Put, 1)
		do(in, x.Depth+1)
		do(api.Down, api.Step*x.Level)
		do(api.Open, 1)
	}
	// A car on a shuttle that is out is set down there and grabbed again, as it may have come from behind another one.
	cars, grabbed := s.cars, s.seen.Lift != 0 && s.seen.Ext != 0
	if grabbed {
		x := place(s.seen.Height/api.Step, 1, s.seen.Ext-1)
		if s.seen.Ext < 0 {
			x = place(s.seen.Height/api.Step, 0, -s.seen.Ext-1)
		}
		cars[spot(x)] = s.seen.Lift
	}
	for level := range w.levels {
		for side := range 2 {
			for _, depth := range []int{1, 0} {
				if x := place(level+1, side, depth); cars[spot(x)] != 0 {
					bring(cars[spot(x)], x)
				}
			}
		}
	}
	if s.seen.Lift != 0 && !grabbed {
		take(s.seen.Lift)
		do(api.Open, 1)
	}
	if s.seen.Bay != 0 {
		expect(w.t, "arrive", p.Arrive(s.seen.Bay), nil)
	}
	expect(w.t, "walk", p.Walk(s.seen.People), nil)
	if !s.seen.Door {
		do(api.Shut, 1)
	}
	do(api.Up, s.seen.Height)
	do(api.Left, -s.seen.Ext)
	do(api.Right, s.seen.Ext)
	if grabbed {
		do(api.Grab, 1)
	}
}

// present: which cars there are, in order.
func (s state) present() []int {
	var l []int
	for _, id := range append(s.cars[:], s.seen.Lift, s.seen.Bay) {
		if id != 0 {
			l = append(l, id)
		}
	}
	slices.Sort(l)
	return l
}

// move: something that is done; what it does to which cars there are.
type move struct {
	name string
	do   func() (came, left int)
}

func (w *world) moves() []move {
	r := w.rig
	plain := func(name string, do func()) move {
		return move{name, func() (int, int) { do(); return 0, 0 }}
	}
	l := []move{
		plain("tick", func() { r.tick(1) }),
		plain("stalled tick", func() { w.stalledTick() }),
		plain("renew", r.renew),
		plain("go", func() { _ = r.plant.Walk(-api.MaxPeople) }),
		plain("come", func() {
			if r.plant.Sense().People == 0 { // one is as good as nine, for what is to be seen here
				_ = r.plant.Walk(1)
			}
		}),
		{"leave", func() (int, int) { id, _ := r.plant.Leave(); return 0, id }},
		plain("park", w.park),
	}
	for i := range w.cars {
		l = append(l, move{fmt.Sprint("arrive ", i+1), func() (int, int) {
			if r.plant.Arrive(i+1) != nil {
				return 0, 0
			}
			return i + 1, 0
		}})
	}
	for i := range w.tickets {
		l = append(l, plain(fmt.Sprint("want ", i+1), func() { w.want(i + 1) }))
	}
	return l
}

// stalledTick: a machine may stall at any tick.
func (w *world) stalledTick() {
	expect(w.t, "stall", w.rig.plant.Stall(1), nil)
	w.rig.tick(1)
	expect(w.t, "stall", w.rig.plant.Stall(0), nil)
}

func (w *world) park() {
	r := w.rig
	before := r.house.Book()
	if before.Last >= w.tickets {
		return
	}
	c := car(r.plant.Sense().Bay, 1)
	ticket, err := r.house.Park(c)
	checkPark(w.t, r, before, c, ticket, err)
}

func (w *world) want(ticket int) {
	r := w.rig
	before := r.house.Book()
	checkWant(w.t, r, before, ticket, r.house.Want(ticket))
}

// checkPark (W4): no ticket is given twice, and nobody is sent away while there is a place for that car.
func checkPark(t *testing.T, r *rig, before api.Book, c api.Car, ticket int, err error) {
	t.Helper()
	after := r.house.Book()
	stays := slices.ContainsFunc(before.Stays, func(s api.Stay) bool { return s.Car.ID == c.ID })
	var want error
	switch {
	case c.ID == 0 || r.plant.Sense().Bay != c.ID:
		want = api.ErrState
	case stays:
		want = api.ErrExist
	case !room(before, r.levels, c) || len(before.Jobs) == api.MaxJobs || before.Last == api.MaxTicket:
		want = api.ErrFull
	}
	if err != want {
		t.Fatalf("park %v by %s: %v, want %v", c, book.Text(before), err, want)
	}
	if err != nil {
		if book.Text(after) != book.Text(before) || ticket != 0 {
			t.Fatalf("park: %v, %d, but %s became %s", err, ticket, book.Text(before), book.Text(after))
		}
		return
	}
	if ticket <= before.Last || after.Last != ticket || book.Find(after, ticket) < 0 {
		t.Fatalf("park: the ticket %d: %s became %s", ticket, book.Text(before), book.Text(after))
	}
}

// room: is there a place for a car, where it fits, to which it can be brought?
func room(b api.Book, levels []api.Size, c api.Car) bool {
	owner := map[api.Place]int{}
	for _, s := range b.Stays {
		owner[s.Home] = s.Ticket
	}
	for _, x := range tower.Places(len(levels)) {
		front, behind := place(x.Level, x.Side, 0), place(x.Level, x.Side, 1)
		inTheWay := x == front && owner[behind] != 0 && slices.Contains(b.Jobs, store(owner[behind]))
		if tower.Fits(c.Size, levels[x.Level-1]) && owner[x] == 0 && owner[front] == 0 && !inTheWay {
			return true
		}
	}
	return false
}

func checkWant(t *testing.T, r *rig, before api.Book, ticket int, err error) {
	t.Helper()
	after := r.house.Book()
	known := book.Find(before, ticket) >= 0
	asked := slices.Contains(before.Jobs, fetch(ticket))
	if (err == nil) != (known && !asked && len(before.Jobs) < api.MaxJobs) {
		t.Fatalf("want %d by %s: %v", ticket, book.Text(before), err)
	}
	if err == nil && (!slices.Contains(after.Jobs, fetch(ticket)) || len(after.Stays) != len(before.Stays)) {
		t.Fatalf("want %d: %s became %s", ticket, book.Text(before), book.Text(after))
	}
}

// checkTick (W4): what was asked for is dropped from the book only where it came to be, or the car left by itself.
func checkTick(t *testing.T, r *rig, before, after api.Book) {
	t.Helper()
	if book.Text(before) == book.Text(after) {
		return
	}
	wrong := func(why string, ticket int) {
		t.Fatalf("%s: %d: %s became %s, the machine is %s %v", why, ticket, book.Text(before), book.Text(after), r.seen(), r.places())
	}
	if after.Last != before.Last || len(after.Jobs) >= len(before.Jobs) {
		wrong("tickets or jobs grew", after.Last)
	}
	for _, s := range before.Stays {
		id := s.Car.ID
		kept := slices.Contains(after.Stays, s)
		if !kept && r.plant.Has(id) && (r.plant.Sense().Bay != id || !slices.Contains(before.Jobs, fetch(s.Ticket))) {
			wrong("a car that is there stays no more", s.Ticket)
		}
		if kept && slices.Contains(before.Jobs, fetch(s.Ticket)) && !slices.Contains(after.Jobs, fetch(s.Ticket)) {
			wrong("who wants a car hasn't it", s.Ticket)
		}
		if kept && slices.Contains(before.Jobs, store(s.Ticket)) && !slices.Contains(after.Jobs, store(s.Ticket)) && r.plant.At(s.Home) != id {
			wrong("a car was not put away", s.Ticket)
		}
	}
}

// rests (W3): all is done, each car that stays is where it belongs, nothing else is anywhere, and the machine rests, open.
func rests(r *rig) bool {
	b, s := r.house.Book(), r.plant.Sense()
	if len(b.Jobs) > 0 || len(r.house.Goals()) > 0 || s != (api.Sensed{Door: true}) {
		return false
	}
	for _, stay := range b.Stays {
		if r.plant.At(stay.Home) != stay.Car.ID {
			return false
		}
	}
	return len(r.places()) == len(b.Stays)
}

// quiet: people leave, and cars that are fetched (or that nobody asks to be put away); else a tick.
func quiet(r *rig) error {
	s := r.plant.Sense()
	if s.Door && s.People > 0 {
		return r.plant.Walk(-api.MaxPeople)
	}
	if s.Door && s.Bay != 0 && book.Of(r.house.Book(), s.Bay) < 0 {
		_, err := r.plant.Leave()
		return err
	}
	return r.house.Tick()
}

// explore goes to every state that is reached from a new house by whatever is done.
func (w *world) explore() []state {
	first := w.look()
	seen := map[state]struct{}{first: {}}
	all := []state{first}
	for i := 0; i < len(all); i++ {
		for _, m := range w.moves() {
			w.set(all[i])
			came, left := m.do()
			next := w.look()
			w.checkMove(m.name, all[i], next, came, left)
			if _, ok := seen[next]; !ok {
				seen[next] = struct{}{}
				all = append(all, next)
			}
		}
	}
	w.t.Logf("%d levels, %d cars, %d tickets: %d states", len(w.levels), w.cars, w.tickets, len(all))
	return all
}

// checkMove (W1, W2): nothing is hurt, no car is lost, and none is there twice.
func (w *world) checkMove(name string, before, after state, came, left int) {
	w.t.Helper()
	if w.rig.plant.Hurt() {
		w.t.Fatalf("%s hurts the machine: %+v", name, before)
	}
	want := slices.DeleteFunc(before.present(), func(id int) bool { return id == left })
	if came != 0 {
		want = append(want, came)
		slices.Sort(want)
	}
	if !slices.Equal(after.present(), want) || len(slices.Compact(slices.Clone(want))) != len(want) {
		w.t.Fatalf("%s: the cars %v became %v: %+v", name, before.present(), after.present(), before)
	}
	checkTick(w.t, w.rig, w.books[before.book], w.shrunk(before, after))
}

// shrunk: the book of a move, if it took something away, so that Park and Want aren't held to what holds for a tick.
func (w *world) shrunk(before, after state) api.Book {
	was, is := w.books[before.book], w.books[after.book]
	if len(is.Jobs) > len(was.Jobs) {
		return was
	}
	return is
}

// TestW1W2W3W4Everywhere: of small machines, all that can come to be.
func TestW1W2W3W4Everywhere(t *testing.T) {
	for _, n := range []struct{ levels, cars, tickets, least int }{{1, 3, 3, 20000}, {2, 2, 2, 5000}} {
		w := newWorld(t, n.levels, n.cars, n.tickets)
		all := w.explore()
		if len(all) < n.least { // so that nothing passes for want of states
			t.Errorf("%d states only", len(all))
		}
		w.allEnds(all)
	}
}

// allEnds (W3): from each state, when it is quiet, the machine comes to rest.
func (w *world) allEnds(all []state) {
	w.t.Helper()
	ends := map[state]int{} // 1: on the way, 2: it comes to rest
	for _, s := range all {
		var way []state
		for ends[s] == 0 {
			ends[s] = 1
			way = append(way, s)
			w.set(s)
			if err := quiet(w.rig); err != nil {
				w.t.Fatal(err)
			}
			next := w.look()
			if next == s && rests(w.rig) {
				ends[s] = 2
			}
			s = next
		}
		if ends[s] == 1 {
			w.t.Fatalf("it never comes to rest, by way of %+v", s)
		}
		for _, x := range way {
			ends[x] = 2
		}
	}
}
