package book

import (
	"fmt"
	"math"
	"reflect"
	"slices"
	"strings"
	"testing"

	"coachhouse/api"
	"coachhouse/tower"
)

func place(level, side, depth int) api.Place {
	return api.Place{Level: level, Side: side, Depth: depth}
}

func stay(ticket, id int, home api.Place) api.Stay {
	return api.Stay{Ticket: ticket, Car: api.Car{ID: id, Size: api.Size{Long: 4, High: 5, Heavy: 6}}, Home: home}
}

// sound: a book of two levels that may be, made anew each time.
func sound() api.Book {
	return api.Book{
		Last: 20,
		Stays: []api.Stay{
			stay(3, 11, place(1, 0, 1)),
			stay(5, 12, place(1, 0, 0)),
			stay(9, 13, place(2, 0, 1)),
			stay(20, 14, place(1, 1, 0)),
		},
		Jobs: []api.Job{{Ticket: 5, Fetch: true}, {Ticket: 20}, {Ticket: 3, Fetch: true}, {Ticket: 5}},
	}
}

// full: a book with a stay in each place, and as many jobs as there may be.
func full(levels int) api.Book {
	b := api.Book{Last: api.MaxTicket}
	for i, p := range tower.Places(levels) {
		b.Stays = append(b.Stays, stay(10*i+1, i+1, p))
	}
	for i := range api.MaxJobs {
		if t := 10*(i/2) + 1; i/2 < len(b.Stays) {
			b.Jobs = append(b.Jobs, api.Job{Ticket: t, Fetch: i%2 == 0})
		}
	}
	return b
}

// same: two books are, whether an empty list is nil or not.
func same(a, b api.Book) bool {
	return a.Last == b.Last && slices.Equal(a.Stays, b.Stays) && slices.Equal(a.Jobs, b.Jobs)
}

// expect holds errors against each other as bare values: a wrapped one, or another type, is not the same.
func expect(t *testing.T, what any, got, want error) {
	t.Helper()
	if got != want {
		t.Errorf("%v: %v, want %v", what, got, want)
	}
}

func TestE1CheckSound(t *testing.T) {
	for levels := range api.MaxLevels {
		expect(t, levels+1, Check(api.Book{}, levels+1), nil)
		expect(t, levels+1, Check(api.Book{Stays: []api.Stay{}, Jobs: []api.Job{}}, levels+1), nil)
		expect(t, levels+1, Check(full(levels+1), levels+1), nil)
	}
	for levels := 2; levels <= api.MaxLevels; levels++ {
		expect(t, "sound", Check(sound(), levels), nil)
	}
	if b := full(api.MaxLevels); len(b.Jobs) != api.MaxJobs || len(b.Stays) != 14 {
		t.Errorf("the full book has %d stays and %d jobs", len(b.Stays), len(b.Jobs))
	}
	lowest := api.Book{Last: 1, Stays: []api.Stay{{Ticket: 1, Car: api.Car{ID: 1, Size: api.Size{Long: 1, High: 1, Heavy: 1}}, Home: place(1, 0, 0)}}}
	expect(t, lowest, Check(lowest, 1), nil)
	highest := api.Book{Last: api.MaxTicket, Stays: []api.Stay{{Ticket: api.MaxTicket, Car: api.Car{ID: api.MaxCar, Size: api.Size{Long: api.MaxSize, High: api.MaxSize, Heavy: api.MaxSize}}, Home: place(4, 0, 1)}}}
	expect(t, highest, Check(highest, 4), nil)
}

// fault: what may be wrong with a book.
type fault struct {
	name string
	make func(b *api.Book)
	want error
}

// faults in the order in which they are told.
var faults = []fault{
	{"last", func(b *api.Book) { b.Last = -1 }, api.ErrBound},
	{"17 stays", func(b *api.Book) { b.Stays = append(b.Stays, make([]api.Stay, 17-len(b.Stays))...) }, api.ErrMany},
	{"9 jobs", func(b *api.Book) { b.Jobs = append(b.Jobs, make([]api.Job, 9-len(b.Jobs))...) }, api.ErrMany},
	{"first car", func(b *api.Book) { b.Stays[0].Car.ID = 0 }, api.ErrBound},
	{"first home", func(b *api.Book) { b.Stays[0].Home.Level = 3 }, api.ErrBound},
	{"first ticket", func(b *api.Book) { b.Stays[0].Ticket = 0 }, api.ErrBound},
	{"first no place", func(b *api.Book) { b.Stays[0].Home = place(2, 1, 1) }, api.ErrShape},
	{"second size", func(b *api.Book) { b.Stays[1].Car.Size.Heavy = 100 }, api.ErrBound},
	{"second home", func(b *api.Book) { b.Stays[1].Home = place(1, 2, 0) }, api.ErrBound},
	{"second ticket", func(b *api.Book) { b.Stays[1].Ticket = 21 }, api.ErrBound},
	{"second no place", func(b *api.Book) { b.Stays[1].Home = place(2, 1, 0) }, api.ErrShape},
	{"second ticket again", func(b *api.Book) { b.Stays[1].Ticket = 3 }, api.ErrShape},
	{"second ticket less", func(b *api.Book) { b.Stays[1].Ticket = 2 }, api.ErrShape},
	{"second home again", func(b *api.Book) { b.Stays[1].Home = place(1, 0, 1) }, api.ErrShape},
	{"second car again", func(b *api.Book) { b.Stays[1].Car.ID = 11 }, api.ErrShape},
	{"last car", func(b *api.Book) { b.Stays[3].Car.ID = 1000 }, api.ErrBound},
	{"last home", func(b *api.Book) { b.Stays[3].Home.Depth = -1 }, api.ErrBound},
	{"last ticket", func(b *api.Book) { b.Stays[3].Ticket = math.MaxInt }, api.ErrBound},
	{"last home is the first one's", func(b *api.Book) { b.Stays[3].Home = place(1, 0, 1) }, api.ErrShape},
	{"last car is the second one's", func(b *api.Book) { b.Stays[3].Car.ID = 12 }, api.ErrShape},
	{"job of none", func(b *api.Book) { b.Jobs[0].Ticket = 4 }, api.ErrShape},
	{"job again", func(b *api.Book) { b.Jobs[3] = api.Job{Ticket: 5, Fetch: true} }, api.ErrShape},
}

func TestE1CheckFaults(t *testing.T) {
	for _, f := range faults {
		b := sound()
		f.make(&b)
		expect(t, f.name, Check(b, 2), f.want)
	}
}

func TestE1CheckTellsTheFirst(t *testing.T) {
	for i, first := range faults {
		for _, later := range faults[i+1:] {
			b := sound()
			later.make(&b)
			first.make(&b)
			expect(t, first.name+", "+later.name, Check(b, 2), first.want)
		}
	}
}

func TestE1CheckBounds(t *testing.T) {
	for _, n := range []int{math.MinInt, -1, api.MaxTicket + 1, math.MaxInt} {
		expect(t, n, Check(api.Book{Last: n}, 1), api.ErrBound)
	}
	for _, n := range []int{0, 1, api.MaxTicket} {
		expect(t, n, Check(api.Book{Last: n}, 1), nil)
	}
	for _, n := range []int{math.MinInt, -1, 0, 7, math.MaxInt} {
		b := api.Book{Last: 6, Stays: []api.Stay{stay(n, 1, place(1, 0, 0))}}
		expect(t, b, Check(b, 1), api.ErrBound)
	}
	for _, n := range []int{1, 6} {
		b := api.Book{Last: 6, Stays: []api.Stay{stay(n, 1, place(1, 0, 0))}}
		expect(t, b, Check(b, 1), nil)
	}
	// Two more stays than there are places may be told, but can't be.
	b := full(api.MaxLevels)
	b.Stays = append(b.Stays, stay(200, 200, place(1, 0, 0)), stay(201, 201, place(1, 0, 1)))
	expect(t, "16 stays", Check(b, api.MaxLevels), api.ErrShape)
	b.Stays = append(b.Stays, stay(202, 202, place(1, 1, 1)))
	expect(t, "17 stays", Check(b, api.MaxLevels), api.ErrMany)
	expect(t, "many jobs", Check(api.Book{Jobs: make([]api.Job, 1000)}, 1), api.ErrMany)
}

func TestE1CheckHomes(t *testing.T) {
	for levels := 1; levels <= api.MaxLevels; levels++ {
		for level := range api.MaxLevels + 2 {
			for side := range 3 {
				for depth := range 3 {
					home, want := place(level, side, depth), error(nil)
					if level < 1 || level > levels || side > 1 || depth > 1 {
						want = api.ErrBound
					} else if level == levels && side == 1 {
						want = api.ErrShape
					}
					b := api.Book{Last: 1, Stays: []api.Stay{stay(1, 1, home)}}
					expect(t, fmt.Sprint(levels, home), Check(b, levels), want)
				}
			}
		}
	}
}

func TestE1CheckJobs(t *testing.T) {
	put, fetch, none := api.Job{Ticket: 3}, api.Job{Ticket: 3, Fetch: true}, api.Job{Ticket: 20}
	for _, c := range []struct {
		jobs []api.Job
		want error
	}{
		{[]api.Job{put, fetch}, nil},
		{[]api.Job{fetch, put}, nil},
		{[]api.Job{put, {Ticket: 20}, put}, api.ErrShape},
		{[]api.Job{fetch, fetch}, api.ErrShape},
		{[]api.Job{none, {Ticket: 0}}, api.ErrShape},
		{[]api.Job{{Ticket: math.MinInt, Fetch: true}}, api.ErrShape},
	} {
		b := sound()
		b.Jobs = c.jobs
		expect(t, c.jobs, Check(b, 2), c.want)
	}
	expect(t, "a job without a stay", Check(api.Book{Last: 9, Jobs: []api.Job{{Ticket: 9}}}, 1), api.ErrShape)
}

func TestE1FindAndOf(t *testing.T) {
	b := sound()
	for i, s := range b.Stays {
		if got := Find(b, s.Ticket); got != i {
			t.Errorf("ticket %d: %d, want %d", s.Ticket, got, i)
		}
		if got := Of(b, s.Car.ID); got != i {
			t.Errorf("car %d: %d, want %d", s.Car.ID, got, i)
		}
	}
	for _, n := range []int{math.MinInt, -1, 0, 4, 21, math.MaxInt} {
		if Find(b, n) != -1 || Of(b, n) != -1 || Find(api.Book{}, n) != -1 || Of(api.Book{}, n) != -1 {
			t.Errorf("%d: there is none", n)
		}
	}
	// The number of a car is no ticket, nor the other way round.
	if Find(b, 11) != -1 || Of(b, 3) != -1 {
		t.Error("a ticket and a car are not the same")
	}
	twice := api.Book{Stays: []api.Stay{stay(1, 7, place(1, 0, 0)), stay(2, 8, place(1, 0, 1)), stay(2, 8, place(9, 9, 9)), stay(0, 0, place(0, 0, 0))}}
	if Find(twice, 2) != 1 || Of(twice, 8) != 1 || Find(twice, 0) != 3 || Of(twice, 0) != 3 {
		t.Error("of several ones, not the first, or not in a book that may not be")
	}
}

func TestE1Copy(t *testing.T) {
	for _, b := range []api.Book{{}, sound(), full(4), {Last: -5, Stays: make([]api.Stay, 40), Jobs: make([]api.Job, 30)}, {Stays: []api.Stay{}, Jobs: []api.Job{{Ticket: 1}}}} {
		if c := Copy(b); !same(c, b) {
			t.Errorf("%v: %v", b, c)
		}
	}
}

func TestZ2CopyIsFresh(t *testing.T) {
	b := sound()
	b.Stays, b.Jobs = slices.Grow(b.Stays, 9), slices.Grow(b.Jobs, 9)
	c := Copy(b)
	for i := range c.Stays {
		c.Stays[i], c.Jobs[i] = api.Stay{}, api.Job{}
	}
	_, _ = append(c.Stays, stay(9, 9, place(9, 9, 9))), append(c.Jobs, api.Job{Ticket: 99})
	if !same(b, sound()) {
		t.Errorf("the copy shares memory with the book: %v", b)
	}
	if b.Stays[:5][4] != (api.Stay{}) || b.Jobs[:5][4] != (api.Job{}) {
		t.Error("the copy shares what stands behind the book's lists")
	}
	behind := Copy(api.Book{Stays: sound().Stays[:0], Jobs: sound().Jobs[:0]})
	if cap(behind.Stays) > 0 && behind.Stays[:1][0] != (api.Stay{}) || cap(behind.Jobs) > 0 && behind.Jobs[:1][0] != (api.Job{}) {
		t.Error("what stands behind the lists was read")
	}
}

func TestZ2CheckTouchesNothing(t *testing.T) {
	b := sound()
	ahead := api.Book{Last: b.Last, Stays: b.Stays[:2], Jobs: b.Jobs[:1]}
	expect(t, "the beginning", Check(ahead, 2), nil)
	expect(t, "a job of a stay that stands behind", Check(api.Book{Last: b.Last, Stays: b.Stays[:1], Jobs: b.Jobs[:1]}, 2), api.ErrShape)
	if Find(ahead, 9) != -1 || Of(ahead, 13) != -1 || Text(ahead) != "20 2 1 3 11 4 5 6 1 0 1 5 12 4 5 6 1 0 0 5 1" {
		t.Errorf("what stands behind was read: %s", Text(ahead))
	}
	Check(b, 2)
	Check(b, 1)
	if !same(b, sound()) {
		t.Errorf("written into: %v", b)
	}
}

func TestE2Text(t *testing.T) {
	for want, b := range map[string]api.Book{
		"0 0 0":      {},
		"999999 0 0": {Last: api.MaxTicket},
		"20 4 4 3 11 4 5 6 1 0 1 5 12 4 5 6 1 0 0 9 13 4 5 6 2 0 1 20 14 4 5 6 1 1 0 5 1 20 0 3 1 5 0": sound(),
		"7 1 0 2 3 10 20 30 4 1 0": {Last: 7, Stays: []api.Stay{{Ticket: 2, Car: api.Car{ID: 3, Size: api.Size{Long: 10, High: 20, Heavy: 30}}, Home: place(4, 1, 0)}}},
		// Also of books that may not be.
		"-1 0 2 -9223372036854775808 1 9223372036854775807 0": {Last: -1, Jobs: []api.Job{{Ticket: math.MinInt, Fetch: true}, {Ticket: math.MaxInt}}},
	} {
		if got := Text(b); got != want {
			t.Errorf("%v: %q, want %q", b, got, want)
		}
	}
	if got, want := Text(api.Book{Jobs: make([]api.Job, 100)}), "0 0 100"+strings.Repeat(" 0 0", 100); got != want {
		t.Errorf("100 jobs: %q", got)
	}
}

// refuse: a text isn't read, and no book is told.
func refuse(t *testing.T, s string, levels int) {
	t.Helper()
	if b, err := Parse(s, levels); err != api.ErrText || !reflect.DeepEqual(b, api.Book{}) {
		t.Errorf("%.80q of %d levels: %v %v", s, levels, b, err)
	}
}

func TestE2ParseReadsWhatTextTells(t *testing.T) {
	for levels := 1; levels <= api.MaxLevels; levels++ {
		for _, b := range []api.Book{{}, {Last: api.MaxTicket}, full(levels)} {
			got, err := Parse(Text(b), levels)
			if err != nil || !same(got, b) {
				t.Errorf("%v: %v %v", b, got, err)
			}
		}
	}
	b := sound()
	for stays := range len(b.Stays) + 1 {
		for jobs := range len(b.Jobs) + 1 {
			x := api.Book{Last: 20, Stays: b.Stays[:stays], Jobs: b.Jobs[:jobs]}
			got, err := Parse(Text(x), 2)
			if Check(x, 2) != nil {
				refuse(t, Text(x), 2)
			} else if err != nil || !same(got, x) {
				t.Errorf("%v: %v %v", x, got, err)
			}
		}
	}
}

func TestE2ParseRefusesWhatMayNotBe(t *testing.T) {
	for _, f := range faults {
		b := sound()
		f.make(&b)
		refuse(t, Text(b), 2)
	}
	refuse(t, Text(sound()), 1)
	refuse(t, Text(full(3)), 2)
}

func TestE2ParseRefusesWhatIsNoText(t *testing.T) {
	for _, s := range []string{
		"", " ", "0", "0 0", "0 0 ", "x", "0 0 x", "0 0 0 ", " 0 0 0", "0  0 0", "0 0 0 0", "0 0 0 0 0",
		"+0 0 0", "00 0 0", "0 00 0", "0 0 00", "-0 0 0", "-1 0 0", "01 0 0", "+1 0 0", "1_0 0 0", "0x0 0 0", "1e1 0 0", "1. 0 0",
		"0 0 0\n", "0\t0 0", "0,0,0", "0 0 0\x00", "\u0660 0 0", "0\u00a00 0", "\xff 0 0",
		"1000000 0 0", "9223372036854775808 0 0", "99999999999999999999 0 0", "-9223372036854775808 0 0",
		"0 1 0", "0 0 1", "0 -1 0", "0 0 -1", "0 -1 4", "0 1 -4",
		// As many numbers as these would be, if the products wrapped round.
		"0 2305843009213693952 0", "0 0 -9223372036854775808", "0 0 4611686018427387904", "0 4611686018427387904 0",
		"1 1 1 1 11 4 5 6 1 0 1 1", "1 1 1 1 11 4 5 6 1 0 1 1 2", "1 1 1 1 11 4 5 6 1 0 1 1 -1", "1 1 1 1 11 4 5 6 1 0 1 1 01", "1 1 1 1 11 4 5 6 1 0 1 1 1 0",
		"1 1 1 1 11 4 5 6 1 0 1 2 1", "1 1 0 1 11 4 5 6 1 0 1 1 1", "1 2 0 1 11 4 5 6 1 0 1", "1 1 0 1 011 4 5 6 1 0 1",
		Text(sound()) + " ", Text(sound()) + " 0", Text(sound()) + " 0 0", Text(sound()) + "\n" + Text(sound()),
		strings.Repeat("0 ", 1<<20), strings.Repeat("0", 1<<20), strings.Repeat(" ", 1<<20), "0 0 0" + strings.Repeat(" 0 0", 1<<20),
	} {
		refuse(t, s, 4)
	}
	if _, err := Parse("1 1 1 1 11 4 5 6 1 0 1 1 1", 1); err != nil {
		t.Errorf("what those are made of isn't read: %v", err)
	}
}

// Whatever a text is made into by one byte: it is read as the book that it is the text of, or not at all.
func TestE2ParseOfTextsThatAreNearlyRight(t *testing.T) {
	s, read := Text(sound()), 0
	for i := range len(s) + 1 {
		for _, c := range []string{"", "0", "1", "2", "9", " ", "-", "+", "x"} {
			for _, from := range []int{i, min(i+1, len(s))} {
				near := s[:i] + c + s[from:]
				b, err := Parse(near, 2)
				if err != nil {
					refuse(t, near, 2)
					continue
				}
				read++
				if Text(b) != near || Check(b, 2) != nil {
					t.Errorf("%q: %v", near, b)
				}
			}
		}
	}
	if read < 50 {
		t.Errorf("only %d of them are read", read)
	}
}

func TestZ2ParsedBooksAreFresh(t *testing.T) {
	s := Text(sound())
	a, _ := Parse(s, 2)
	b, _ := Parse(s, 2)
	clear(a.Stays)
	clear(a.Jobs)
	_, _ = append(a.Stays, stay(1, 1, place(1, 1, 1))), append(a.Jobs, api.Job{Ticket: 99})
	if !same(b, sound()) {
		t.Errorf("two books share memory: %v", b)
	}
}

func TestZ1EveryCallEnds(t *testing.T) {
	extremes := []int{math.MinInt, -1, 0, 1, api.MaxLevels + 1, 1 << 40, math.MaxInt}
	for _, n := range extremes {
		for _, m := range extremes {
			b := api.Book{Last: n, Stays: []api.Stay{stay(n, m, place(m, n, n)), stay(m, n, place(n, m, m))}, Jobs: []api.Job{{Ticket: m}, {Ticket: n, Fetch: true}}}
			Check(b, m)
			Find(b, m)
			Of(b, m)
			Copy(b)
			Parse(Text(b), m)
			Check(sound(), m)
			Parse(Text(sound()), m)
		}
	}
	big := api.Book{Stays: make([]api.Stay, 100000), Jobs: make([]api.Job, 100000)}
	expect(t, "a big book", Check(big, 4), api.ErrMany)
	refuse(t, Text(Copy(big)), 4)
}
