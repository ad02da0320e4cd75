package desk

import (
	"fmt"
	"math"
	"reflect"
	"slices"
	"testing"

	"coachhouse/api"
	"coachhouse/book"
	"coachhouse/tower"
)

func place(level, side, depth int) api.Place {
	return api.Place{Level: level, Side: side, Depth: depth}
}

func car(id, long int) api.Car {
	return api.Car{ID: id, Size: api.Size{Long: long, High: 1, Heavy: 1}}
}

func stay(ticket, id int, home api.Place) api.Stay {
	return api.Stay{Ticket: ticket, Car: car(id, 1), Home: home}
}

func put(ticket int) api.Job { return api.Job{Ticket: ticket} }

func fetch(ticket int) api.Job { return api.Job{Ticket: ticket, Fetch: true} }

// rooms: levels that have room for cars that are so long.
func rooms(long ...int) []api.Size {
	var l []api.Size
	for _, n := range long {
		l = append(l, api.Size{Long: n, High: 5, Heavy: 5})
	}
	return l
}

// same: two books are, whether an empty list is nil or not.
func same(a, b api.Book) bool {
	return a.Last == b.Last && slices.Equal(a.Stays, b.Stays) && slices.Equal(a.Jobs, b.Jobs)
}

func isZero(b api.Book) bool { return reflect.DeepEqual(b, api.Book{}) }

// expect holds errors against each other as bare values: a wrapped one, or another type, is not the same.
func expect(t *testing.T, what any, got, want error) {
	t.Helper()
	if got != want {
		t.Errorf("%v: %v, want %v", what, got, want)
	}
}

func expectPick(t *testing.T, b api.Book, levels []api.Size, c api.Car, want api.Place, ok bool) {
	t.Helper()
	if got, is := Pick(b, levels, c); got != want || is != ok {
		t.Errorf("%v of %v in %v: %v %v, want %v %v", c, levels, b, got, is, want, ok)
	}
}

func TestE3PickTheFirstThatFits(t *testing.T) {
	levels := rooms(3, 5, 2, 9)
	for long, want := range map[int]api.Place{1: place(1, 0, 1), 3: place(1, 0, 1), 4: place(2, 0, 1), 5: place(2, 0, 1), 6: place(4, 0, 1), 9: place(4, 0, 1)} {
		expectPick(t, api.Book{}, levels, car(1, long), want, true)
	}
	expectPick(t, api.Book{}, levels, car(1, 10), api.Place{}, false)
	high, heavy := api.Car{ID: 1, Size: api.Size{Long: 1, High: 6, Heavy: 1}}, api.Car{ID: 1, Size: api.Size{Long: 1, High: 1, Heavy: 6}}
	expectPick(t, api.Book{}, levels, high, api.Place{}, false)
	expectPick(t, api.Book{}, levels, heavy, api.Place{}, false)
	roomy := append(levels[:3:3], api.Size{Long: 9, High: 6, Heavy: 6})
	expectPick(t, api.Book{}, roomy, high, place(4, 0, 1), true)
	expectPick(t, api.Book{}, roomy, heavy, place(4, 0, 1), true)
}

func TestE3PickWhatIsFree(t *testing.T) {
	one := rooms(5)
	behind, front := stay(1, 11, place(1, 0, 1)), stay(2, 12, place(1, 0, 0))
	for _, c := range []struct {
		name string
		b    api.Book
		want api.Place
		ok   bool
	}{
		{"empty", api.Book{Last: 9}, place(1, 0, 1), true},
		{"one is behind", api.Book{Last: 9, Stays: []api.Stay{behind}}, place(1, 0, 0), true},
		{"one is in front: no way to the place behind", api.Book{Last: 9, Stays: []api.Stay{front}}, api.Place{}, false},
		{"both", api.Book{Last: 9, Stays: []api.Stay{behind, front}}, api.Place{}, false},
		{"one is to be put away behind", api.Book{Last: 9, Stays: []api.Stay{behind}, Jobs: []api.Job{put(1)}}, api.Place{}, false},
		{"one is to be fetched from behind", api.Book{Last: 9, Stays: []api.Stay{behind}, Jobs: []api.Job{fetch(1)}}, place(1, 0, 0), true},
		{"one is to be put away behind, and fetched", api.Book{Last: 9, Stays: []api.Stay{behind}, Jobs: []api.Job{fetch(1), put(1)}}, api.Place{}, false},
		{"one in front is to be fetched", api.Book{Last: 9, Stays: []api.Stay{front}, Jobs: []api.Job{fetch(2)}}, api.Place{}, false},
	} {
		t.Run(c.name, func(t *testing.T) { expectPick(t, c.b, one, car(1, 1), c.want, c.ok) })
	}
	two := rooms(5, 5)
	taken := api.Book{Last: 9, Stays: []api.Stay{behind, front}}
	expectPick(t, taken, two, car(1, 1), place(1, 1, 1), true)
	// The other side, and the level above, are in nobody's way.
	expectPick(t, api.Book{Last: 9, Stays: []api.Stay{behind, stay(3, 13, place(1, 1, 0))}, Jobs: []api.Job{put(1)}}, two, car(1, 1), place(2, 0, 1), true)
	expectPick(t, api.Book{Last: 9, Stays: []api.Stay{behind, stay(3, 13, place(1, 1, 1))}, Jobs: []api.Job{put(1)}}, two, car(1, 1), place(1, 1, 0), true)
}

// mayHave: E3's words, place by place.
func mayHave(b api.Book, p api.Place, room api.Size, c api.Car) bool {
	if c.Size.Long > room.Long || c.Size.High > room.High || c.Size.Heavy > room.Heavy {
		return false
	}
	homes := map[api.Place]int{}
	for _, s := range b.Stays {
		homes[s.Home] = s.Ticket
	}
	if homes[p] != 0 {
		return false
	}
	if p.Depth == 1 {
		return homes[place(p.Level, p.Side, 0)] == 0
	}
	behind := homes[place(p.Level, p.Side, 1)]
	for _, j := range b.Jobs {
		if j.Ticket == behind && !j.Fetch {
			return false
		}
	}
	return true
}

// sketch: a book of two levels in which each place has no stay, one, one with a job that puts away, or one with a job that fetches: n says which.
func sketch(n int) api.Book {
	b := api.Book{Last: 50}
	for i, p := range tower.Places(2) {
		kind := n % 4
		n /= 4
		if kind == 0 {
			continue
		}
		b.Stays = append(b.Stays, stay(i+1, i+101, p))
		if kind > 1 {
			b.Jobs = append(b.Jobs, api.Job{Ticket: i + 1, Fetch: kind == 3})
		}
	}
	return b
}

const sketches = 4 * 4 * 4 * 4 * 4 * 4

func TestE3PickInAllBooksOfTwoLevels(t *testing.T) {
	for n := range sketches {
		b := sketch(n)
		for _, levels := range [][]api.Size{rooms(3, 5), rooms(5, 5)} {
			for _, c := range []api.Car{car(1, 3), car(1, 5), car(1, 6)} {
				var want api.Place
				found := false
				for _, p := range tower.Places(2) {
					if !found && mayHave(b, p, levels[p.Level-1], c) {
						want, found = p, true
					}
				}
				expectPick(t, b, levels, c, want, found)
			}
		}
	}
}

func TestE4ParkInAllBooksOfTwoLevels(t *testing.T) {
	levels, c := rooms(3, 5), car(999, 4)
	for n := range sketches {
		b := sketch(n)
		p, ok := Pick(b, levels, c)
		got, ticket, err := Park(b, levels, c)
		if !ok {
			if err != api.ErrFull || ticket != 0 || !isZero(got) {
				t.Fatalf("%v: %v %d %v", b, got, ticket, err)
			}
			continue
		}
		want := book.Copy(b)
		want.Last = 51
		want.Stays = append(want.Stays, api.Stay{Ticket: 51, Car: c, Home: p})
		want.Jobs = append(want.Jobs, put(51))
		if err != nil || ticket != 51 || !same(got, want) || book.Check(got, 2) != nil {
			t.Fatalf("%v: %v %d %v, want %v", b, got, ticket, err, want)
		}
	}
}

func TestE4Park(t *testing.T) {
	got, ticket, err := Park(api.Book{}, rooms(5), car(11, 4))
	want := api.Book{Last: 1, Stays: []api.Stay{{Ticket: 1, Car: car(11, 4), Home: place(1, 0, 1)}}, Jobs: []api.Job{put(1)}}
	if err != nil || ticket != 1 || !same(got, want) {
		t.Errorf("the first car: %v %d %v", got, ticket, err)
	}
	// Tickets go on from the last one, whoever has left by now.
	b := api.Book{Last: 41, Stays: []api.Stay{stay(7, 11, place(1, 0, 1))}, Jobs: []api.Job{fetch(7)}}
	got, ticket, err = Park(b, rooms(5), car(12, 5))
	want = api.Book{Last: 42, Stays: []api.Stay{stay(7, 11, place(1, 0, 1)), {Ticket: 42, Car: car(12, 5), Home: place(1, 0, 0)}}, Jobs: []api.Job{fetch(7), put(42)}}
	if err != nil || ticket != 42 || !same(got, want) {
		t.Errorf("the second car: %v %d %v", got, ticket, err)
	}
	b = api.Book{Last: api.MaxTicket - 1}
	if got, ticket, err := Park(b, rooms(5), car(1, 1)); err != nil || ticket != api.MaxTicket || got.Last != api.MaxTicket {
		t.Errorf("the last ticket: %v %d %v", got, ticket, err)
	}
}

// busy: a book of four levels with so many jobs.
func busy(jobs int) api.Book {
	b := api.Book{Last: 50, Stays: []api.Stay{stay(1, 101, place(1, 0, 1)), stay(2, 102, place(1, 1, 1)), stay(3, 103, place(2, 0, 1)), stay(4, 104, place(2, 1, 1)), stay(5, 105, place(3, 0, 1))}}
	all := []api.Job{put(1), fetch(1), put(2), fetch(2), put(3), fetch(3), put(4), fetch(4)}
	b.Jobs = all[:jobs]
	return b
}

func TestE4ParkErrors(t *testing.T) {
	levels := rooms(5, 5, 5, 5)
	last := api.Book{Last: api.MaxTicket, Stays: []api.Stay{stay(1, 101, place(1, 0, 1))}}
	for _, c := range []struct {
		name   string
		b      api.Book
		levels []api.Size
		car    api.Car
		want   error
	}{
		{"no number", busy(0), levels, car(0, 1), api.ErrBound},
		{"a number that is too great", busy(0), levels, car(api.MaxCar+1, 1), api.ErrBound},
		{"numbers at their end", busy(0), levels, api.Car{ID: math.MinInt, Size: api.Size{Long: math.MaxInt}}, api.ErrBound},
		{"no size", busy(0), levels, car(1, 0), api.ErrBound},
		{"a size that is too great", busy(0), levels, car(1, api.MaxSize+1), api.ErrBound},
		{"it has a stay", busy(0), levels, car(103, 1), api.ErrExist},
		{"it has a stay, of another size", busy(0), levels, car(103, 4), api.ErrExist},
		{"no place is long enough", busy(0), levels, car(1, 6), api.ErrFull},
		{"7 jobs", busy(7), levels, car(1, 1), nil},
		{"8 jobs", busy(8), levels, car(1, 1), api.ErrFull},
		{"no ticket is left", last, levels, car(1, 1), api.ErrFull},
		{"no place is left", api.Book{Last: 2, Stays: []api.Stay{stay(1, 101, place(1, 0, 1)), stay(2, 102, place(1, 0, 0))}}, rooms(5), car(1, 1), api.ErrFull},
		{"the car, ahead of its stay", busy(8), levels, car(103, 0), api.ErrBound},
		{"the car, ahead of the place", last, levels, car(0, 6), api.ErrBound},
		{"its stay, ahead of the place", busy(0), levels, car(103, 6), api.ErrExist},
		{"its stay, ahead of the jobs", busy(8), levels, car(103, 1), api.ErrExist},
		{"its stay, ahead of the tickets", last, levels, car(101, 1), api.ErrExist},
	} {
		got, ticket, err := Park(c.b, c.levels, c.car)
		expect(t, c.name, err, c.want)
		if err != nil && (!isZero(got) || ticket != 0) {
			t.Errorf("%s: beside the error: %v %d", c.name, got, ticket)
		}
	}
}

func TestE4Want(t *testing.T) {
	b := busy(0)
	for _, s := range b.Stays {
		got, err := Want(b, s.Ticket)
		want := busy(0)
		want.Jobs = []api.Job{fetch(s.Ticket)}
		if err != nil || !same(got, want) {
			t.Errorf("%d: %v %v", s.Ticket, got, err)
		}
	}
	// A car that is yet to be put away may be wanted, and comes behind what was asked for earlier.
	got, err := Want(busy(7), 4)
	if err != nil || !same(got, busy(8)) {
		t.Errorf("%v %v", got, err)
	}
}

func TestE4WantErrors(t *testing.T) {
	for _, c := range []struct {
		name   string
		b      api.Book
		ticket int
		want   error
	}{
		{"an empty book", api.Book{Last: 50}, 1, api.ErrNone},
		{"no stay has it", busy(4), 6, api.ErrNone},
		{"a car's number", busy(4), 101, api.ErrNone},
		{"nought", busy(4), 0, api.ErrNone},
		{"the last ticket", busy(4), 50, api.ErrNone},
		{"the least number", busy(4), math.MinInt, api.ErrNone},
		{"the greatest number", busy(4), math.MaxInt, api.ErrNone},
		{"it is fetched", busy(4), 1, api.ErrExist},
		{"it is fetched, as the last job", busy(4), 2, api.ErrExist},
		{"it is put away", busy(1), 1, nil},
		{"7 jobs", busy(7), 5, nil},
		{"8 jobs", busy(8), 5, api.ErrFull},
		{"no stay, ahead of the jobs", busy(8), 6, api.ErrNone},
		{"it is fetched, ahead of the jobs", busy(8), 4, api.ErrExist},
	} {
		got, err := Want(c.b, c.ticket)
		expect(t, c.name, err, c.want)
		if err != nil && !isZero(got) {
			t.Errorf("%s: beside the error: %v", c.name, got)
		}
	}
}

func TestE5Done(t *testing.T) {
	first, second, third := stay(3, 11, place(1, 0, 1)), stay(5, 12, place(1, 0, 0)), stay(9, 13, place(1, 1, 1))
	all := []api.Stay{first, second, third}
	jobs := []api.Job{put(3), fetch(5), fetch(3), put(5), put(9)}
	for _, c := range []struct {
		j     api.Job
		gone  bool
		stays []api.Stay
		jobs  []api.Job
	}{
		{put(3), false, all, []api.Job{fetch(5), fetch(3), put(5), put(9)}},
		{put(5), false, all, []api.Job{put(3), fetch(5), fetch(3), put(9)}},
		{put(9), false, all, []api.Job{put(3), fetch(5), fetch(3), put(5)}},
		{put(3), true, []api.Stay{second, third}, []api.Job{fetch(5), put(5), put(9)}},
		{put(9), true, []api.Stay{first, second}, []api.Job{put(3), fetch(5), fetch(3), put(5)}},
		{fetch(3), false, []api.Stay{second, third}, []api.Job{fetch(5), put(5), put(9)}},
		{fetch(5), false, []api.Stay{first, third}, []api.Job{put(3), fetch(3), put(9)}},
		{fetch(5), true, []api.Stay{first, third}, []api.Job{put(3), fetch(3), put(9)}},
		// A job that isn't in the book.
		{fetch(9), false, []api.Stay{first, second}, []api.Job{put(3), fetch(5), fetch(3), put(5)}},
		{put(4), false, all, jobs},
		{put(4), true, all, jobs},
		{fetch(4), false, all, jobs},
		{fetch(math.MinInt), true, all, jobs},
	} {
		b := api.Book{Last: 20, Stays: slices.Clone(all), Jobs: slices.Clone(jobs)}
		want := api.Book{Last: 20, Stays: c.stays, Jobs: c.jobs}
		got := Done(b, c.j, c.gone)
		if !same(got, want) {
			t.Errorf("%v, gone %v: %v, want %v", c.j, c.gone, got, want)
		}
		expect(t, "what it becomes may be", book.Check(got, 2), nil)
		if !same(b, api.Book{Last: 20, Stays: all, Jobs: jobs}) {
			t.Errorf("%v, gone %v: written into: %v", c.j, c.gone, b)
		}
	}
	if got := Done(api.Book{Last: 20}, fetch(1), true); !same(got, api.Book{Last: 20}) {
		t.Errorf("an empty book: %v", got)
	}
}

// Done of a stay whose job it was, without more jobs, leaves nothing of it.
func TestE5DoneUndoesPark(t *testing.T) {
	levels := rooms(3, 5)
	for n := range sketches {
		b := sketch(n)
		parked, ticket, err := Park(b, levels, car(999, 4))
		if err != nil {
			continue
		}
		b.Last = ticket
		if got := Done(parked, put(ticket), true); !same(got, b) {
			t.Fatalf("gone: %v, want %v", got, b)
		}
		wanted, err := Want(parked, ticket)
		if err != nil {
			t.Fatal(err)
		}
		if got := Done(Done(wanted, put(ticket), false), fetch(ticket), false); !same(got, b) {
			t.Fatalf("put away and fetched: %v, want %v", got, b)
		}
	}
}

// Whatever is done at the desk, the book may be, and no ticket is given twice.
func TestE4BooksStaySound(t *testing.T) {
	draw := uint64(7)
	roll := func(most int) int {
		draw = draw*6364136223846793005 + 1442695040888963407
		return int(draw >> 33 % uint64(most))
	}
	for _, levels := range [][]api.Size{rooms(4), rooms(2, 4), rooms(3, 1, 4, 4)} {
		b, given := api.Book{}, 0
		for range 3000 {
			switch roll(4) {
			case 0, 1:
				next, ticket, err := Park(b, levels, car(1+roll(20), 1+roll(5)))
				if err == nil {
					b = next
					if ticket != given+1 {
						t.Fatalf("the ticket %d behind %d", ticket, given)
					}
					given = ticket
				}
			case 2:
				if len(b.Stays) > 0 {
					if next, err := Want(b, b.Stays[roll(len(b.Stays))].Ticket); err == nil {
						b = next
					}
				}
			case 3:
				if len(b.Jobs) > 0 {
					b = Done(b, b.Jobs[roll(len(b.Jobs))], roll(4) == 0)
				}
			}
			if err := book.Check(b, len(levels)); err != nil {
				t.Fatalf("%v: %v", b, err)
			}
		}
		if given < 100 {
			t.Errorf("only %d tickets of %d levels", given, len(levels))
		}
	}
}

func TestZ2ListsAreNeitherWrittenNorKept(t *testing.T) {
	levels := rooms(5, 5, 9, 9)[:2]
	spare, none := stay(77, 77, place(2, 0, 0)), fetch(77)
	// What stands behind the lists in memory would be other stays and jobs.
	stays := []api.Stay{stay(1, 101, place(1, 0, 1)), stay(2, 102, place(1, 1, 1)), spare, spare}
	jobs := []api.Job{put(1), fetch(2), none, none}
	b := api.Book{Last: 9, Stays: stays[:2], Jobs: jobs[:2]}
	keptStays, keptJobs, keptLevels := slices.Clone(stays), slices.Clone(jobs), slices.Clone(levels)
	parked, _, err := Park(b, levels, car(7, 1))
	expect(t, "park", err, nil)
	wanted, err := Want(b, 1)
	expect(t, "want", err, nil)
	left, ended := Done(b, put(1), false), Done(b, fetch(2), false)
	_, err = Want(b, 77)
	expect(t, "a stay that stands behind", err, api.ErrNone)
	for _, x := range []api.Book{parked, wanted, left, ended} {
		clear(x.Stays)
		clear(x.Jobs)
		_, _ = append(x.Stays, stay(8, 8, place(8, 8, 8))), append(x.Jobs, put(88))
	}
	if !slices.Equal(stays, keptStays) || !slices.Equal(jobs, keptJobs) || !slices.Equal(levels, keptLevels) {
		t.Errorf("written into: %v %v %v", stays, jobs, levels)
	}
	again, ticket, err := Park(b, levels, car(7, 1))
	want := api.Book{Last: 10, Stays: []api.Stay{stays[0], stays[1], stay(10, 7, place(1, 1, 0))}, Jobs: []api.Job{put(1), fetch(2), put(10)}}
	if err != nil || ticket != 10 || !same(again, want) {
		t.Errorf("%v %d %v, want %v", again, ticket, err, want)
	}
}

func TestZ1EveryCallEnds(t *testing.T) {
	extremes := []int{math.MinInt, -1, 0, 1, api.MaxLevels + 1, math.MaxInt}
	for _, n := range extremes {
		for _, m := range extremes {
			t.Run(fmt.Sprint(n, m), func(t *testing.T) {
				b := api.Book{Last: n, Stays: []api.Stay{stay(n, m, place(m, n, n))}, Jobs: []api.Job{put(n), fetch(m)}}
				c := api.Car{ID: m, Size: api.Size{Long: n, High: m, Heavy: n}}
				for _, levels := range [][]api.Size{nil, {}, rooms(n, m), rooms(1, 2, 3, 4, 5), make([]api.Size, 100)} {
					Pick(b, levels, c)
					Park(b, levels, c)
				}
				Want(b, n)
				Done(b, put(n), true)
			})
		}
	}
}
