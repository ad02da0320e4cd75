package ledger

import (
	"fmt"
	"math"
	"slices"
	"strings"
	"testing"

	"coachhouse/api"
	"coachhouse/book"
	"coachhouse/disk"
	"coachhouse/tower"
)

func place(level, side, depth int) api.Place {
	return api.Place{Level: level, Side: side, Depth: depth}
}

func stay(ticket, id int, home api.Place) api.Stay {
	return api.Stay{Ticket: ticket, Car: api.Car{ID: id, Size: api.Size{Long: 4, High: 5, Heavy: 6}}, Home: home}
}

// sound: a book of two levels that may be, made anew each time.
func sound() api.Book {
	return api.Book{
		Last:  20,
		Stays: []api.Stay{stay(3, 11, place(1, 0, 1)), stay(5, 12, place(1, 0, 0)), stay(20, 14, place(2, 0, 1))},
		Jobs:  []api.Job{{Ticket: 5, Fetch: true}, {Ticket: 20}, {Ticket: 5}},
	}
}

// longest: the book with the longest text that there is, of so many levels.
func longest(levels int) api.Book {
	places := tower.Places(levels)
	b := api.Book{Last: api.MaxTicket}
	for i, p := range places {
		s := stay(api.MaxTicket-len(places)+i+1, api.MaxCar-i, p)
		s.Car.Size = api.Size{Long: api.MaxSize, High: api.MaxSize, Heavy: api.MaxSize}
		b.Stays = append(b.Stays, s)
	}
	for i := range min(api.MaxJobs, 2*len(b.Stays)) {
		b.Jobs = append(b.Jobs, api.Job{Ticket: b.Stays[i/2].Ticket, Fetch: i%2 == 0})
	}
	return b
}

// some books of four levels, short and long ones beside each other; some have texts that just fill sectors.
func some() []api.Book {
	books := []api.Book{{}, longest(4), {Last: 7}, sound(), longest(4), longest(1), {Last: api.MaxTicket}, {}, longest(2)}
	for n := api.Sector; n < 447; n += api.Sector {
		books = append(books, sized(n), api.Book{Last: n})
	}
	return books
}

// sized: a book of four levels whose text has just so many bytes, from 64 to 447.
func sized(n int) api.Book {
	for stays := range 14 {
		for jobs := range min(api.MaxJobs, 2*(stays+1)) + 1 {
			b := longest(4)
			b.Stays, b.Jobs = b.Stays[:stays+1], b.Jobs[:jobs]
			if over := len(book.Text(b)) - n; 0 <= over && over <= 4*len(b.Stays) {
				return shorter(b, over)
			}
		}
	}
	panic("there is no such book")
}

// shorter by so many bytes, at most four of each stay: each of its numbers that is changed takes one away.
func shorter(b api.Book, by int) api.Book {
	for i := range by {
		c := &b.Stays[i/4].Car
		switch i % 4 {
		case 0:
			c.Size.Long = 9
		case 1:
			c.Size.High = 9
		case 2:
			c.Size.Heavy = 9
		default:
			c.ID = 10 + i/4
		}
	}
	return b
}

func same(a, b api.Book) bool { return book.Text(a) == book.Text(b) }

// expect holds errors against each other as bare values: a wrapped one, or another type, is not the same.
func expect(t *testing.T, what any, got, want error) {
	t.Helper()
	if got != want {
		t.Errorf("%v: %v, want %v", what, got, want)
	}
}

func sectors(t *testing.T, n int) *disk.Disk {
	t.Helper()
	d, err := disk.New(n)
	if err != nil {
		t.Fatal(err)
	}
	return d
}

func opened(t *testing.T, d *disk.Disk, levels int) *Ledger {
	t.Helper()
	l, err := Open(d, levels)
	if err != nil {
		t.Fatalf("it is not opened: %v", err)
	}
	return l
}

// made: a formatted disk of so many sectors, and its ledger.
func made(t *testing.T, n, levels int) (*disk.Disk, *Ledger) {
	t.Helper()
	d := sectors(t, n)
	if err := Format(d); err != nil {
		t.Fatalf("it is not formatted: %v", err)
	}
	return d, opened(t, d, levels)
}

// fall: the disk is down from now on.
func fall(t *testing.T, d *disk.Disk) {
	t.Helper()
	d.Arm(0)
	expect(t, "the fall", d.Flush(), api.ErrDown)
}

// shut: it isn't opened, and no ledger is told beside the error.
func shut(t *testing.T, what any, d *disk.Disk, levels int, want error) {
	t.Helper()
	l, err := Open(d, levels)
	expect(t, what, err, want)
	if l != nil {
		t.Errorf("%v: a ledger beside an error", what)
	}
}

// has: the ledger on a disk has a book, also when all that isn't kept is lost.
func has(t *testing.T, what any, d *disk.Disk, levels int, want api.Book) {
	t.Helper()
	d.Restart(0)
	if got := opened(t, d, levels).Book(); !same(got, want) {
		t.Fatalf("%v: %s, want %s", what, book.Text(got), book.Text(want))
	}
}

// image: all that is on a disk.
func image(t *testing.T, d *disk.Disk) []string {
	t.Helper()
	var all []string
	for at := range d.Sectors() {
		s, err := d.Read(at)
		expect(t, at, err, nil)
		all = append(all, s)
	}
	return all
}

func write(t *testing.T, d *disk.Disk, texts []string) {
	t.Helper()
	for at, s := range texts {
		expect(t, at, d.Write(at, s), nil)
	}
}

// litter: what may be on a disk of so many sectors that has no ledger.
func litter(n int) map[string][]string {
	return map[string][]string{
		"noughts":       slices.Repeat([]string{""}, n),
		"a book's text": slices.Repeat([]string{"0 0 0"}, n),
		"letters":       slices.Repeat([]string{strings.Repeat("x", api.Sector)}, n),
		"bytes":         slices.Repeat([]string{strings.Repeat("\xff\x00", api.Sector/2)}, n),
		"blanks":        slices.Repeat([]string{strings.Repeat(" ", api.Sector)}, n),
	}
}

func TestG1Format(t *testing.T) {
	for n := 1; n <= api.Sectors; n++ {
		d := sectors(t, n)
		if n < 22 {
			expect(t, n, Format(d), api.ErrFull)
			shut(t, n, d, 1, api.ErrText)
			continue
		}
		expect(t, n, Format(d), nil)
		for levels := 1; levels <= api.MaxLevels; levels++ {
			has(t, n, d, levels, api.Book{})
		}
	}
}

func TestG1FormatOfTooFewSectors(t *testing.T) {
	d := sectors(t, 21)
	write(t, d, slices.Repeat([]string{"old"}, 21))
	expect(t, "flush", d.Flush(), nil)
	was := image(t, d)
	expect(t, "21", Format(d), api.ErrFull)
	if !slices.Equal(image(t, d), was) {
		t.Error("something was written")
	}
	d.Restart(0)
	if !slices.Equal(image(t, d), was) {
		t.Error("something was kept")
	}
	fall(t, d)
	expect(t, "21, down", Format(d), api.ErrFull)
}

func TestG1FormatTellsOfTheFall(t *testing.T) {
	d := sectors(t, 22)
	fall(t, d)
	expect(t, "down", Format(d), api.ErrDown)
	d.Restart(0)
	shut(t, "nothing was written", d, 1, api.ErrText)
	steps := 0
	for {
		d = sectors(t, 22)
		d.Arm(steps)
		err := Format(d)
		if err == nil {
			break
		}
		expect(t, steps, err, api.ErrDown)
		if steps++; steps > 1000 {
			t.Fatal("it takes more than 1000 steps")
		}
	}
	if steps == 0 {
		t.Error("it takes no step, so nothing is kept")
	}
}

func TestG1FormatWhateverWasOnIt(t *testing.T) {
	for _, n := range []int{22, 30, api.Sectors} {
		for what, texts := range litter(n) {
			for _, flushed := range []bool{false, true} {
				d := sectors(t, n)
				write(t, d, texts)
				if flushed {
					expect(t, what, d.Flush(), nil)
				}
				expect(t, what, Format(d), nil)
				has(t, what, d, 1, api.Book{})
			}
		}
	}
	d, l := made(t, 22, 4)
	for i, b := range some() {
		expect(t, i, l.Keep(b), nil)
		for range i%3 + 1 {
			expect(t, i, Format(d), nil)
			has(t, "formatted anew", d, 4, api.Book{})
		}
		l = opened(t, d, 4)
		expect(t, i, l.Keep(b), nil)
		has(t, i, d, 4, b)
		l = opened(t, d, 4)
	}
}

func TestG1OpenWhatIsNone(t *testing.T) {
	for _, n := range []int{1, 2, 11, 21, 22, api.Sectors} {
		for what, texts := range litter(n) {
			d := sectors(t, n)
			write(t, d, texts)
			shut(t, what, d, 4, api.ErrText)
			expect(t, what, d.Flush(), nil)
			shut(t, what, d, 4, api.ErrText)
		}
	}
	// The beginning of a ledger, on a disk that is too small for one, is none.
	d, l := made(t, 22, 4)
	expect(t, "keep", l.Keep(sound()), nil)
	all := image(t, d)
	for n := 1; n < 22; n++ {
		small := sectors(t, n)
		write(t, small, all[:n])
		shut(t, n, small, 4, api.ErrText)
	}
}

func TestG1OpenTellsTheFirstError(t *testing.T) {
	wrong := []int{math.MinInt, -1, 0, api.MaxLevels + 1, math.MaxInt}
	for _, n := range []int{1, 21, 22, api.Sectors} {
		d := sectors(t, n)
		for _, levels := range wrong {
			shut(t, levels, d, levels, api.ErrBound)
		}
		shut(t, "no ledger", d, 1, api.ErrText)
		fall(t, d)
		for _, levels := range wrong {
			shut(t, levels, d, levels, api.ErrBound)
		}
		for levels := 1; levels <= api.MaxLevels; levels++ {
			shut(t, "down", d, levels, api.ErrDown)
		}
	}
	d, _ := made(t, 22, 1)
	for _, levels := range wrong {
		shut(t, levels, d, levels, api.ErrBound)
	}
	fall(t, d)
	shut(t, "down", d, 1, api.ErrDown)
	d.Restart(0)
	opened(t, d, 1)
}

func TestG1OpenOfOtherLevels(t *testing.T) {
	books := append(some(), longest(3), api.Book{Last: 1, Stays: []api.Stay{stay(1, 1, place(1, 1, 0))}})
	for i, b := range books {
		d, l := made(t, 22, 4)
		expect(t, i, l.Keep(b), nil)
		for levels := 1; levels <= api.MaxLevels; levels++ {
			if book.Check(b, levels) != nil {
				shut(t, fmt.Sprint(i, " of ", levels), d, levels, api.ErrText)
			} else {
				has(t, fmt.Sprint(i, " of ", levels), d, levels, b)
			}
		}
	}
	// What may be of two levels may not be of one, as its last level has fewer places.
	d, l := made(t, 22, 2)
	expect(t, "keep", l.Keep(books[len(books)-1]), nil)
	shut(t, "one level", d, 1, api.ErrText)
}

func TestG1OpenTakesNoStep(t *testing.T) {
	d, l := made(t, 22, 2)
	expect(t, "keep", l.Keep(sound()), nil)
	d.Arm(0)
	if !same(opened(t, d, 2).Book(), sound()) || d.Down() {
		t.Error("it can't be opened without a step")
	}
}

func TestG2Keep(t *testing.T) {
	for _, n := range []int{22, 23, api.Sectors} {
		d, l := made(t, n, 4)
		if !same(l.Book(), api.Book{}) {
			t.Errorf("at first: %v", l.Book())
		}
		for i, b := range some() {
			expect(t, i, l.Keep(b), nil)
			if !same(l.Book(), b) {
				t.Fatalf("%d: %v, want %v", i, l.Book(), b)
			}
			// Each other time by the same ledger, without a look at the disk in between.
			if i%2 == 0 {
				has(t, i, d, 4, b)
				l = opened(t, d, 4)
			}
		}
		for range 3 {
			expect(t, "again", l.Keep(sound()), nil)
			has(t, "again", d, 4, sound())
		}
	}
}

func TestG2KeepTheLongestBooks(t *testing.T) {
	for levels := 1; levels <= api.MaxLevels; levels++ {
		d, l := made(t, 22, levels)
		expect(t, levels, l.Keep(longest(levels)), nil)
		has(t, levels, d, levels, longest(levels))
	}
	if n := len(book.Text(longest(4))); n != 447 || n > slotSectors*api.Sector {
		t.Errorf("the longest text has %d bytes", n)
	}
	for n := 64; n <= 447; n++ {
		b := sized(n)
		if len(book.Text(b)) != n || book.Check(b, 4) != nil {
			t.Fatalf("no book of %d bytes: %s", n, book.Text(b))
		}
		d, l := made(t, 22, 4)
		expect(t, n, l.Keep(longest(4)), nil)
		expect(t, n, l.Keep(longest(4)), nil)
		expect(t, n, l.Keep(b), nil)
		has(t, n, d, 4, b)
	}
}

func TestG2KeepRefusesWhatMayNotBe(t *testing.T) {
	for what, c := range map[string]struct {
		spoil func(b *api.Book)
		want  error
	}{
		"last":         {func(b *api.Book) { b.Last = -1 }, api.ErrBound},
		"much":         {func(b *api.Book) { b.Last = api.MaxTicket + 1 }, api.ErrBound},
		"stays":        {func(b *api.Book) { b.Stays = make([]api.Stay, 17) }, api.ErrMany},
		"jobs":         {func(b *api.Book) { b.Jobs = make([]api.Job, 9) }, api.ErrMany},
		"car":          {func(b *api.Book) { b.Stays[1].Car.ID = 1000 }, api.ErrBound},
		"ticket":       {func(b *api.Book) { b.Stays[2].Ticket = 21 }, api.ErrBound},
		"level":        {func(b *api.Book) { b.Stays[0].Home.Level = 3 }, api.ErrBound},
		"spare":        {func(b *api.Book) { b.Stays[0].Home = place(2, 1, 0) }, api.ErrShape},
		"home again":   {func(b *api.Book) { b.Stays[1].Home = b.Stays[0].Home }, api.ErrShape},
		"job of none":  {func(b *api.Book) { b.Jobs[0].Ticket = 4 }, api.ErrShape},
		"job again":    {func(b *api.Book) { b.Jobs[2] = b.Jobs[0] }, api.ErrShape},
		"all at once":  {func(b *api.Book) { *b = api.Book{Last: -1, Stays: make([]api.Stay, 50), Jobs: make([]api.Job, 50)} }, api.ErrBound},
		"far too many": {func(b *api.Book) { b.Stays = make([]api.Stay, 100000) }, api.ErrMany},
	} {
		d, l := made(t, 22, 2)
		kept := api.Book{Last: 4, Stays: []api.Stay{stay(4, 4, place(2, 0, 0))}}
		expect(t, what, l.Keep(kept), nil)
		was := image(t, d)
		b := sound()
		c.spoil(&b)
		// It takes no step.
		d.Arm(0)
		expect(t, what, l.Keep(b), c.want)
		if d.Down() || !same(l.Book(), kept) || !slices.Equal(image(t, d), was) {
			t.Errorf("%s: something was changed: %v", what, l.Book())
		}
		has(t, what, d, 2, kept)
		fall(t, d)
		expect(t, what+", down", l.Keep(b), c.want)
	}
}

func TestG2KeepGoesByItsLevels(t *testing.T) {
	for levels := 1; levels <= api.MaxLevels; levels++ {
		for other := 1; other <= api.MaxLevels; other++ {
			d, l := made(t, 22, levels)
			b := longest(other)
			want := book.Check(b, levels)
			expect(t, fmt.Sprint(levels, other), l.Keep(b), want)
			if want != nil {
				b = api.Book{}
			}
			has(t, fmt.Sprint(levels, other), d, levels, b)
		}
	}
}

func TestG2KeepTellsOfTheFall(t *testing.T) {
	d, l := made(t, 22, 2)
	fall(t, d)
	expect(t, "down", l.Keep(sound()), api.ErrDown)
	d.Restart(math.MaxUint64)
	has(t, "nothing was written", d, 2, api.Book{})
}

func TestZ2BooksAreApart(t *testing.T) {
	d, l := made(t, 22, 2)
	b := sound()
	b.Stays, b.Jobs = slices.Grow(b.Stays, 9), slices.Grow(b.Jobs, 9)
	expect(t, "keep", l.Keep(b), nil)
	if !same(b, sound()) {
		t.Errorf("it was written into: %v", b)
	}
	clear(b.Stays)
	clear(b.Jobs)
	if !same(l.Book(), sound()) {
		t.Errorf("what was handed in is kept: %v", l.Book())
	}
	for _, l := range []*Ledger{l, opened(t, d, 2)} {
		out := l.Book()
		clear(out.Stays)
		clear(out.Jobs)
		_, _ = append(out.Stays, stay(9, 9, place(9, 9, 9))), append(out.Jobs, api.Job{Ticket: 99})
		if !same(l.Book(), sound()) {
			t.Errorf("what came out is kept: %v", l.Book())
		}
	}
	if b.Stays[:4][3] != (api.Stay{}) || b.Jobs[:4][3] != (api.Job{}) {
		t.Error("what stands behind the lists was written into")
	}
	has(t, "on the disk", d, 2, sound())
	// What stands behind a list is no part of the book.
	x := sound()
	short := api.Book{Last: x.Last, Stays: x.Stays[:2], Jobs: x.Jobs[:1]}
	expect(t, "keep", l.Keep(short), nil)
	if got := l.Book(); len(got.Stays) != 2 || len(got.Jobs) != 1 || cap(got.Stays) > 2 && got.Stays[:3][2] != (api.Stay{}) {
		t.Errorf("more than the list: %v", got)
	}
	if !same(x, sound()) {
		t.Errorf("it was written into: %v", x)
	}
}

func TestZ2LedgersAreApart(t *testing.T) {
	d, l := made(t, 22, 4)
	e, m := made(t, 22, 4)
	expect(t, "keep", l.Keep(sound()), nil)
	expect(t, "keep", m.Keep(longest(4)), nil)
	fall(t, e)
	if !same(l.Book(), sound()) {
		t.Errorf("the other one's: %v", l.Book())
	}
	has(t, "one", d, 4, sound())
	has(t, "other", e, 4, longest(4))
}

func TestG1CutsTheWholeText(t *testing.T) {
	for n := range slotSectors*api.Sector + 1 {
		text := strings.Repeat("0123456789abcdefg", 40)[:n]
		var got strings.Builder
		next := 0
		for i, piece := range cut(text) {
			if i != next || len(piece) > api.Sector {
				t.Fatalf("%d bytes: the piece %d has %d", n, i, len(piece))
			}
			next++
			got.WriteString(piece)
		}
		if got.String() != text || next != slotSectors {
			t.Fatalf("%d bytes: %d pieces, %q", n, next, got.String())
		}
	}
	// Who looks at some of it is not told more, and may look anew.
	pieces := cut(strings.Repeat("x", 200))
	for range 2 {
		seen := 0
		for i, piece := range pieces {
			seen += len(piece)
			if i == 1 {
				break
			}
		}
		if seen != 2*api.Sector {
			t.Errorf("%d bytes of two pieces", seen)
		}
	}
}
