package ledger

import (
	"fmt"
	"math"
	"testing"

	"coachhouse/api"
	"coachhouse/book"
	"coachhouse/disk"
)

// die: numbers that look drawn, the same each time.
type die uint64

func (d *die) n(most int) int {
	*d = *d*6364136223846793005 + 1442695040888963407
	return int(uint64(*d>>33) % uint64(most))
}

func (d *die) bits() uint64 { return uint64(d.n(1<<31))<<33 ^ uint64(d.n(1<<31)) }

// either: the ledger is opened, and has one of two books: which.
func either(t *testing.T, what any, d *disk.Disk, was, next api.Book) api.Book {
	t.Helper()
	l, err := Open(d, 4)
	if err != nil {
		t.Fatalf("%v: it is not opened: %v", what, err)
	}
	got := l.Book()
	if !same(got, was) && !same(got, next) {
		t.Fatalf("%v: %s is neither %s nor %s", what, book.Text(got), book.Text(was), book.Text(next))
	}
	return got
}

// masks: what may be kept behind so many steps: all choices of as many writes, but not of more than a slot and its name have.
func masks(steps int) []uint64 {
	all := []uint64{math.MaxUint64, 1 << 63, 0xfffffffffffff800}
	for keep := range uint64(1) << min(steps, slotSectors+1) {
		all = append(all, keep)
	}
	return all
}

// prepared: a ledger that has a book, in either of its slots.
func prepared(t *testing.T, was api.Book, twice bool) *disk.Disk {
	t.Helper()
	d, l := made(t, 22, 4)
	if twice {
		expect(t, "keep", l.Keep(longest(4)), nil)
	}
	expect(t, "keep", l.Keep(was), nil)
	return d
}

// TestG3EachFall: at each step, with each choice of what is kept; and who opens it then can go on.
func TestG3EachFall(t *testing.T) {
	was, next, behind := longest(4), sound(), sized(3*api.Sector)
	for round, pair := range [][2]api.Book{{was, next}, {next, was}, {{}, was}} {
		for step, over := 0, false; !over; step++ {
			seen := map[string]int{}
			for _, keep := range masks(step) {
				what := fmt.Sprintf("round %d, step %d, keep %x", round, step, keep)
				d := prepared(t, pair[0], round%2 == 0)
				l := opened(t, d, 4)
				d.Arm(step)
				err := l.Keep(pair[1])
				over = err == nil
				d.Restart(keep)
				got := either(t, what, d, pair[0], pair[1])
				seen[book.Text(got)]++
				if over && !same(got, pair[1]) {
					t.Fatalf("%s: what was kept is lost: %s", what, book.Text(got))
				}
				if !over && err != api.ErrDown {
					t.Fatalf("%s: %v", what, err)
				}
				expect(t, what, opened(t, d, 4).Keep(behind), nil)
				has(t, what, d, 4, behind)
			}
			if step > 1000 {
				t.Fatal("a Keep takes more than 1000 steps")
			}
			if over && len(seen) != 1 {
				t.Errorf("behind a Keep it hangs on what is kept: %v", seen)
			}
		}
	}
}

// TestG3FallBehindFall: many falls, one behind the other, on one disk; nobody formats it anew.
func TestG3FallBehindFall(t *testing.T) {
	roll := die(9)
	books := some()
	for range 40 {
		d, _ := made(t, 22+roll.n(19), 4)
		was, fell := api.Book{}, 0
		for round := range 60 {
			l := opened(t, d, 4)
			d.Arm(roll.n(40))
			next := was
			for range 4 {
				next = books[roll.n(len(books))]
				if l.Keep(next) != nil {
					fell++
					break
				}
				was = next
			}
			d.Restart(roll.bits())
			was = either(t, round, d, was, next)
		}
		if fell < 10 {
			t.Errorf("it fell only %d times", fell)
		}
	}
}

// TestG3ADownDiskStaysSo: what is tried while it is down changes nothing.
func TestG3ADownDiskStaysSo(t *testing.T) {
	for step := range 14 {
		d := prepared(t, sound(), false)
		l := opened(t, d, 4)
		d.Arm(step)
		err := l.Keep(longest(4))
		for range 3 {
			if err != nil {
				expect(t, "keep", l.Keep(api.Book{Last: 77}), api.ErrDown)
				expect(t, "format", Format(d), api.ErrDown)
			}
		}
		d.Restart(math.MaxUint64)
		either(t, step, d, sound(), longest(4))
	}
}

// TestW6FormatFalls: a disk that is formatted anew has its old book, or the empty one; one that had no ledger has none, or the empty one.
func TestW6FormatFalls(t *testing.T) {
	for _, twice := range []bool{false, true} {
		for step, over := 0, false; !over; step++ {
			for _, keep := range masks(step) {
				what := fmt.Sprintf("step %d, keep %x", step, keep)
				d := prepared(t, sound(), twice)
				d.Arm(step)
				over = Format(d) == nil
				d.Restart(keep)
				if got := either(t, what, d, sound(), api.Book{}); over && !same(got, api.Book{}) {
					t.Fatalf("%s: it is not formatted: %v", what, got)
				}
			}
		}
	}
	for litterName, texts := range litter(22) {
		for step := range 14 {
			for _, keep := range masks(step) {
				d := sectors(t, 22)
				write(t, d, texts)
				expect(t, litterName, d.Flush(), nil)
				d.Arm(step)
				err := Format(d)
				d.Restart(keep)
				l, e := Open(d, 4)
				if e == nil && !same(l.Book(), api.Book{}) || e != nil && (err == nil || e != api.ErrText) {
					t.Fatalf("%s, step %d, keep %x: %v, then %v", litterName, step, keep, err, e)
				}
				expect(t, litterName, Format(d), nil)
				has(t, litterName, d, 4, api.Book{})
			}
		}
	}
}
