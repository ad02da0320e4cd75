package house

import (
	"fmt"
	"math"
	"slices"
	"testing"

	"coachhouse/api"
	"coachhouse/book"
	"coachhouse/desk"
	"coachhouse/turn"
)

// die: numbers that look drawn, the same each time.
type die uint64

func (d *die) n(most int) int {
	*d = *d*6364136223846793005 + 1442695040888963407
	return int(uint64(*d>>33) % uint64(most))
}

func (d *die) bits() uint64 { return uint64(d.n(1<<31))<<33 ^ uint64(d.n(1<<31)) }

// session: a rig to which drawn things are done, and what must be true of it.
type session struct {
	*rig
	die   *die
	cars  []int // those that came, and did not leave
	given map[int]struct{}
	falls int
}

func newSession(t *testing.T, d *die, levels int) *session {
	var l []api.Size
	most := 3 + d.n(7)
	for range levels {
		l = append(l, api.Size{Long: 1 + d.n(most), High: most, Heavy: most})
	}
	l[levels-1] = size(most)
	return &session{rig: build(t, l...), die: d, given: map[int]struct{}{}}
}

// sound (W1, W2): nothing is hurt, and all cars are there, each once.
func (s *session) sound() {
	s.t.Helper()
	if s.plant.Hurt() {
		s.t.Fatalf("the machine is hurt: %s", s.all())
	}
	var l []int
	for _, id := range s.places() {
		l = append(l, id)
	}
	for _, id := range []int{s.plant.Sense().Lift, s.plant.Sense().Bay} {
		if id != 0 {
			l = append(l, id)
		}
	}
	slices.Sort(l)
	slices.Sort(s.cars)
	if !slices.Equal(l, s.cars) {
		s.t.Fatalf("the cars %v are %v: %s", s.cars, l, s.all())
	}
}

func (s *session) someCar() api.Car {
	return api.Car{ID: 1 + s.die.n(20), Size: api.Size{Long: 1 + s.die.n(5), High: 1 + s.die.n(2), Heavy: 1}}
}

// outside: what comes from outside, also what can't be.
func (s *session) outside() {
	switch s.die.n(7) {
	case 0, 1:
		s.arriveOne()
	case 2:
		if id, err := s.plant.Leave(); err == nil {
			s.cars = slices.DeleteFunc(s.cars, func(k int) bool { return k == id })
		}
	case 3:
		_ = s.plant.Walk(s.die.n(21) - 10)
	case 4, 5:
		_ = s.plant.Walk(-api.MaxPeople)
	case 6:
		_ = s.plant.Stall(s.die.n(7))
	}
}

func (s *session) arriveOne() {
	if id := s.someCar().ID; s.plant.Arrive(id) == nil {
		s.cars = append(s.cars, id)
	}
}

func (s *session) parkOne() {
	c := s.someCar()
	if s.die.n(5) > 0 {
		s.arriveOne()
		c.ID = s.plant.Sense().Bay
	}
	was := s.house.Book()
	next, _, _ := desk.Park(was, s.levels, c)
	ticket, err := s.house.Park(c)
	if err == api.ErrDown {
		s.fall(was, next)
		return
	}
	checkPark(s.t, s.rig, was, c, ticket, err)
	if err != nil {
		return
	}
	if _, ok := s.given[ticket]; ok {
		s.t.Fatalf("the ticket %d is given twice", ticket)
	}
	s.given[ticket] = struct{}{}
}

func (s *session) wantOne() {
	was := s.house.Book()
	ticket := s.die.n(was.Last + 2)
	if len(was.Stays) > 0 && s.die.n(4) > 0 {
		ticket = was.Stays[s.die.n(len(was.Stays))].Ticket
	}
	next, _ := desk.Want(was, ticket)
	err := s.house.Want(ticket)
	if err == api.ErrDown {
		s.fall(was, next)
		return
	}
	checkWant(s.t, s.rig, was, ticket, err)
}

func (s *session) ticks(n int) {
	for range n {
		was := s.house.Book()
		_, next, _ := turn.Next(was, len(s.levels), s.plant)
		err := s.house.Tick()
		if err != nil {
			expect(s.t, "tick", err, api.ErrDown)
			s.fall(was, next)
			return
		}
		checkTick(s.t, s.rig, was, s.house.Book())
	}
}

// fall: the disk did. The house may go on for a while, and harms nothing; then another one is made.
func (s *session) fall(was, next api.Book) {
	s.t.Helper()
	s.falls++
	for range s.die.n(30) {
		_ = s.house.Tick()
		if s.die.n(4) == 0 {
			s.outside()
		}
		s.sound()
	}
	s.disk.Restart(s.die.bits())
	s.renew()
	if got := book.Text(s.house.Book()); got != book.Text(was) && got != book.Text(next) {
		s.t.Fatalf("the book is %s, neither %s nor %s", got, book.Text(was), book.Text(next))
	}
}

// end (W3, W6): when it is quiet, all is done at last.
func (s *session) end() {
	s.t.Helper()
	s.disk.Arm(-1)
	for range 5000 {
		before := s.plant.Sense()
		was := s.house.Book()
		if err := quiet(s.rig); err != nil {
			s.t.Fatal(err)
		}
		checkTick(s.t, s.rig, was, s.house.Book())
		after := s.plant.Sense()
		if before.Door && before.Bay != 0 && after.Bay == 0 && after.Lift == before.Lift {
			s.cars = slices.DeleteFunc(s.cars, func(k int) bool { return k == before.Bay })
		}
		if rests(s.rig) {
			s.sound()
			return
		}
	}
	s.t.Fatalf("it does not come to rest: %s", s.all())
}

func (s *session) play(moves int, falls bool) {
	for range moves {
		switch s.die.n(12) {
		case 0, 1, 2:
			s.outside()
		case 3, 4, 5:
			s.parkOne()
		case 6:
			s.wantOne()
		case 7:
			if s.die.n(3) == 0 {
				s.renew()
			}
		case 8:
			if falls {
				s.disk.Arm(s.die.n(40))
			}
		default:
			s.ticks([]int{1, 7, 40, 100}[s.die.n(4)])
		}
		s.sound()
	}
}

func TestW1W2W3W4Sessions(t *testing.T) {
	d := die(11)
	tickets := 0
	for i := range 240 {
		s := newSession(t, &d, 1+i%api.MaxLevels)
		for range 4 {
			s.play(80, false)
			s.end()
		}
		tickets += len(s.given)
	}
	t.Logf("%d tickets", tickets)
	if tickets < 4000 { // so that nothing passes for want of cars
		t.Errorf("%d tickets only", tickets)
	}
}

func TestW6Sessions(t *testing.T) {
	d := die(12)
	tickets, falls := 0, 0
	for i := range 240 {
		s := newSession(t, &d, 1+i%api.MaxLevels)
		for range 4 {
			s.play(80, true)
			s.end()
		}
		tickets += len(s.given)
		falls += s.falls
	}
	t.Logf("%d tickets, %d falls", tickets, falls)
	if tickets < 3000 || falls < 2000 {
		t.Errorf("%d tickets and %d falls only", tickets, falls)
	}
}

// script: a session that can be played anew, with a hitch at any point of it. Whoever finds that what was asked for isn't
// in the book asks once more.
type script struct {
	*rig
	keep  uint64      // of what was written, when the disk falls
	hitch func(n int) // ahead of the tick of that number
	n     int
	falls int
}

// settle: ticks, up to rest; cars that were fetched leave, as far as they are told to.
func (s *script) settle(enough func() bool) {
	s.t.Helper()
	for range 500 {
		if enough() {
			return
		}
		if s.hitch != nil {
			s.hitch(s.n)
		}
		s.n++
		was := s.house.Book()
		_, next, _ := turn.Next(was, len(s.levels), s.plant)
		if err := s.house.Tick(); err != nil {
			s.restart(err, was, next)
		}
	}
	s.t.Fatalf("it takes too long: %s", s.all())
}

func (s *script) restart(err error, was, next api.Book) {
	s.t.Helper()
	expect(s.t, "a fall", err, api.ErrDown)
	s.falls++
	s.disk.Restart(s.keep)
	s.renew()
	if got := book.Text(s.house.Book()); got != book.Text(was) && got != book.Text(next) {
		s.t.Fatalf("the book is %s, neither %s nor %s", got, book.Text(was), book.Text(next))
	}
}

func (s *script) parkSurely(c api.Car) {
	s.t.Helper()
	was := s.house.Book()
	next, _, _ := desk.Park(was, s.levels, c)
	if _, err := s.house.Park(c); err != nil {
		s.restart(err, was, next)
		if book.Of(s.house.Book(), c.ID) < 0 {
			_, err := s.house.Park(c)
			expect(s.t, "once more", err, nil)
		}
	}
}

func (s *script) wantSurely(ticket int) {
	s.t.Helper()
	was := s.house.Book()
	next, _ := desk.Want(was, ticket)
	if err := s.house.Want(ticket); err != nil {
		s.restart(err, was, next)
		if !slices.Contains(s.house.Book().Jobs, fetch(ticket)) {
			expect(s.t, "once more", s.house.Want(ticket), nil)
		}
	}
}

// run it: two cars are put away, one behind the other; the one behind is fetched, and leaves; a third one is asked to be put
// away, but leaves by itself; and a fourth one is put away, and fetched at once.
func (s *script) run() {
	s.t.Helper()
	resting := func() bool { return rests(s.rig) }
	inBay := func(id int) func() bool {
		return func() bool { return s.plant.Sense().Door && s.plant.Sense().Bay == id && len(s.house.Book().Jobs) == 0 }
	}
	for _, c := range []api.Car{car(11, 4), car(22, 3)} {
		s.arrive(c.ID)
		s.parkSurely(c)
		s.settle(resting)
	}
	s.wantSurely(1)
	s.settle(inBay(11))
	s.leave(11)
	s.settle(resting)
	s.arrive(33)
	s.parkSurely(car(33, 7))
	s.leave(33)
	s.settle(resting)
	s.arrive(44)
	s.parkSurely(car(44, 7))
	s.wantSurely(4)
	s.settle(inBay(44))
	s.leave(44)
	s.settle(resting)
	s.has("at last", "4 1 0 2 22 3 3 3 1 0 0")
	s.stands("at last", map[api.Place]int{place(1, 0, 0): 22})
	s.sees("at last", "0 0 open 0 0 0")
}

// TestW6EachFall: at each step of a session's disk, with some of what was written kept.
func TestW6EachFall(t *testing.T) {
	masks := []uint64{0, math.MaxUint64, 0x5555555555555555, 0xaaaaaaaaaaaaaaaa, 1 << 63}
	for bit := range 11 {
		masks = append(masks, 1<<bit, math.MaxUint64^1<<bit)
	}
	steps := 0
	for over := false; !over; steps++ {
		for _, keep := range masks {
			s := &script{rig: small(t), keep: keep}
			s.disk.Arm(steps)
			s.run()
			over = s.falls == 0
			if t.Failed() {
				t.Fatalf("a fall at the step %d, %x is kept", steps, keep)
			}
		}
	}
	if steps < 100 {
		t.Errorf("%d steps only", steps)
	}
}

// TestW6AnewAtEachTick: at each tick of a session the house is made anew, or the machine stalls, once or again and again.
func TestW6AnewAtEachTick(t *testing.T) {
	plainly := &script{rig: small(t)}
	plainly.run()
	if plainly.n < 100 {
		t.Errorf("%d ticks only", plainly.n)
	}
	for at := range plainly.n {
		for _, every := range []int{1 << 30, 40, 13} {
			s := &script{rig: small(t)}
			s.hitch = func(n int) {
				if n >= at && (n-at)%every == 0 {
					s.renew()
					expect(t, "stall", s.plant.Stall(n%3), nil)
				}
			}
			s.run()
			if t.Failed() {
				t.Fatalf("anew at the tick %d, and every %d behind it", at, every)
			}
		}
	}
}

// TestW3WithoutPeopleLeaving: while somebody is there nothing is moved, and behind that all is done.
func TestW3WithoutPeopleLeaving(t *testing.T) {
	r := small(t)
	r.put(car(11, 4), car(22, 4))
	r.want(1)
	expect(t, "come", r.plant.Walk(1), nil)
	before := r.places()
	r.tick(300)
	r.sees("somebody is there", "0 0 open 1 0 0")
	r.stands("somebody is there", before)
	expect(t, "go", r.plant.Walk(-1), nil)
	r.tick(100)
	r.sees("nobody is there", "0 0 open 0 0 11")
}

// TestW3ACarInTheBay: a car that was fetched, and doesn't leave, is in the way of the next one, but not of one that is put
// back; when it leaves, the next one comes.
func TestW3ACarInTheBay(t *testing.T) {
	r := small(t)
	r.put(car(11, 4), car(22, 4), car(33, 4))
	r.want(1)
	r.want(3)
	r.tick(300)
	r.sees("11 is there", "0 0 open 0 0 11")
	r.stands("11 is there", map[api.Place]int{place(1, 0, 0): 22, place(1, 1, 1): 33})
	r.leave(11)
	r.tick(100)
	r.sees("33 is there", "0 0 open 0 0 33")
	r.has("33 is there", "3 1 0 2 22 4 4 4 1 0 0")
}

// TestW4EachOfAFullTower: who wants a car has that one, from wherever, and the others are where they were.
func TestW4EachOfAFullTower(t *testing.T) {
	for levels := 1; levels <= api.MaxLevels; levels++ {
		count := 4*levels - 2
		for wanted := 1; wanted <= count; wanted++ {
			r := build(t, slices.Repeat([]api.Size{size(9)}, levels)...)
			for id := range count {
				r.put(car(id+1, 1))
			}
			r.arrive(99)
			_, err := r.house.Park(car(99, 1))
			expect(t, "the tower is full", err, api.ErrFull)
			r.leave(99)
			full := r.places()
			if len(full) != count {
				t.Fatalf("%d levels have room for %d", levels, len(full))
			}
			r.want(wanted)
			r.tick(200)
			r.sees("wanted", fmt.Sprint("0 0 open 0 0 ", wanted))
			home, _ := where(full, wanted)
			delete(full, home)
			r.stands("wanted", full)
			r.leave(wanted)
			r.tick(100)
			r.sees("at last", "0 0 open 0 0 0")
			behindAStay := home.Depth == 1 && full[place(home.Level, home.Side, 0)] != 0
			r.arrive(99)
			ticket, err := r.house.Park(car(99, 1))
			if (err == api.ErrFull) != behindAStay || err == nil && ticket != count+1 {
				t.Errorf("%d levels, %v is empty: %d, %v", levels, home, ticket, err)
			}
		}
	}
}

func where(all map[api.Place]int, id int) (api.Place, bool) {
	for x, k := range all {
		if k == id {
			return x, true
		}
	}
	return api.Place{}, false
}
