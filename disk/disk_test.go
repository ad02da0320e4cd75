package disk

import (
	"fmt"
	"math"
	"slices"
	"strings"
	"testing"

	"coachhouse/api"
)

const none = "" // what a sector is, of which nothing was written

func fresh(t *testing.T, n int) *Disk {
	t.Helper()
	d, err := New(n)
	if err != nil {
		t.Fatal(err)
	}
	return d
}

// expect holds errors against each other as bare values: a wrapped one, or another type, is not the same.
func expect(t *testing.T, what any, got, want error) {
	t.Helper()
	if got != want {
		t.Errorf("%v: %v, want %v", what, got, want)
	}
}

// full: a text with the noughts behind it that a sector has.
func full(s string) string { return s + strings.Repeat("\x00", api.Sector-len(s)) }

// holds: the sectors from 0 on have just these texts.
func holds(t *testing.T, what any, d *Disk, want ...string) {
	t.Helper()
	if d.Sectors() != len(want) {
		t.Fatalf("%v: %d sectors, want %d", what, d.Sectors(), len(want))
	}
	for at, s := range want {
		if got, err := d.Read(at); err != nil || got != full(s) {
			t.Errorf("%v: sector %d: %q %v, want %q", what, at, got, err, full(s))
		}
	}
}

// writes: all of them come to be.
func writes(t *testing.T, d *Disk, at int, texts ...string) {
	t.Helper()
	for _, s := range texts {
		expect(t, s, d.Write(at, s), nil)
	}
}

// refuses: a sector isn't read, and nothing is told of it.
func refuses(t *testing.T, d *Disk, at int, want error) {
	t.Helper()
	if s, err := d.Read(at); s != "" || err != want {
		t.Errorf("sector %d: %q %v, want %v", at, s, err, want)
	}
}

func TestF1New(t *testing.T) {
	for _, n := range []int{math.MinInt, -1, 0, api.Sectors + 1, 1 << 40, math.MaxInt} {
		d, err := New(n)
		expect(t, n, err, api.ErrBound)
		if d != nil {
			t.Errorf("%d sectors: a disk beside an error", n)
		}
	}
	for n := 1; n <= api.Sectors; n++ {
		d := fresh(t, n)
		holds(t, n, d, make([]string, n)...)
		if d.Down() {
			t.Errorf("%d sectors: it is down", n)
		}
		// It isn't armed, so that it never falls of itself.
		for range 100 {
			writes(t, d, n-1, "x")
		}
		expect(t, "flush", d.Flush(), nil)
	}
}

func TestF1Write(t *testing.T) {
	d := fresh(t, 3)
	long := strings.Repeat("a", api.Sector)
	writes(t, d, 1, long)
	holds(t, "a full sector", d, none, long, none)
	writes(t, d, 1, "bc")
	holds(t, "noughts behind it", d, none, "bc", none)
	writes(t, d, 0, "first")
	writes(t, d, 2, "last")
	holds(t, "each in its own", d, "first", "bc", "last")
	writes(t, d, 0, "")
	holds(t, "an empty one", d, none, "bc", "last")
	all := make([]byte, 256)
	for i := range all {
		all[i] = byte(i)
	}
	for bytes := range slices.Chunk(all, api.Sector) {
		writes(t, d, 2, string(bytes))
		holds(t, bytes, d, none, "bc", string(bytes))
	}
	writes(t, d, 2, "\x00\x00é\xff")
	holds(t, "bytes that are no letters", d, none, "bc", "\x00\x00é\xff")
}

func TestF1Bounds(t *testing.T) {
	for _, n := range []int{1, 2, api.Sectors} {
		d := fresh(t, n)
		for _, at := range []int{math.MinInt, -1, n, n + 1, math.MaxInt} {
			refuses(t, d, at, api.ErrBound)
			expect(t, at, d.Write(at, "x"), api.ErrBound)
			expect(t, at, d.Write(at, ""), api.ErrBound)
		}
		for _, length := range []int{api.Sector + 1, 2 * api.Sector, 1 << 20} {
			expect(t, length, d.Write(0, strings.Repeat("x", length)), api.ErrBound)
		}
		holds(t, "what was refused", d, make([]string, n)...)
	}
}

func TestF1WhichErrorIsTold(t *testing.T) {
	d := fresh(t, 2)
	d.Arm(0)
	// A Write that can't be is no step: it doesn't fall.
	expect(t, "no sector", d.Write(2, "x"), api.ErrBound)
	expect(t, "too long", d.Write(0, strings.Repeat("x", api.Sector+1)), api.ErrBound)
	if d.Down() {
		t.Error("it fell at what is no step")
	}
	refuses(t, d, 2, api.ErrBound)
	expect(t, "the step", d.Flush(), api.ErrDown)
	for _, at := range []int{math.MinInt, -1, 0, 1, 2, math.MaxInt} {
		refuses(t, d, at, api.ErrDown)
	}
	expect(t, "no sector, down", d.Write(-1, "x"), api.ErrBound)
	expect(t, "too long, down", d.Write(0, strings.Repeat("x", api.Sector+1)), api.ErrBound)
	expect(t, "down", d.Write(0, "x"), api.ErrDown)
	if d.Sectors() != 2 {
		t.Errorf("a disk that is down has %d sectors", d.Sectors())
	}
}

func TestF1DisksAreApart(t *testing.T) {
	d, e := fresh(t, 2), fresh(t, 2)
	writes(t, d, 0, "mine")
	d.Arm(0)
	expect(t, "flush", d.Flush(), api.ErrDown)
	holds(t, "the other one", e, none, none)
	expect(t, "the other one", e.Flush(), nil)
	if !d.Down() || e.Down() {
		t.Error("not just the one is down")
	}
}

func TestF2Steps(t *testing.T) {
	for n := range 9 {
		for _, flushed := range []bool{false, true} {
			d := fresh(t, 1)
			step := func() error {
				if flushed {
					return d.Flush()
				}
				return d.Write(0, "x")
			}
			d.Arm(n)
			for i := range n {
				refuses(t, d, 1, api.ErrBound)
				expect(t, fmt.Sprint("step ", i, " of ", n), step(), nil)
				expect(t, "no step", d.Write(1, "x"), api.ErrBound)
			}
			if d.Down() {
				t.Errorf("down behind %d of %d steps", n, n)
			}
			for range 3 {
				expect(t, fmt.Sprint("behind ", n), step(), api.ErrDown)
				if !d.Down() {
					t.Errorf("not down behind %d steps and one", n)
				}
			}
		}
	}
}

func TestF2Arm(t *testing.T) {
	for _, n := range []int{math.MinInt, -2, -1} {
		d := fresh(t, 1)
		d.Arm(0)
		d.Arm(n)
		for range 5 {
			expect(t, n, d.Flush(), nil)
		}
	}
	d := fresh(t, 1)
	d.Arm(1)
	d.Arm(3)
	for range 3 {
		expect(t, "armed anew", d.Flush(), nil)
	}
	d.Arm(math.MaxInt)
	expect(t, "far away", d.Write(0, "x"), nil)
	d.Arm(0)
	expect(t, "at once", d.Write(0, "y"), api.ErrDown)
	// Who is down stays so, however it is armed.
	for _, n := range []int{-1, 0, 5} {
		d.Arm(n)
		expect(t, n, d.Flush(), api.ErrDown)
		expect(t, n, d.Write(0, "z"), api.ErrDown)
		if !d.Down() {
			t.Error("it is up again")
		}
	}
}

func TestF2Flush(t *testing.T) {
	d := fresh(t, 2)
	writes(t, d, 0, "a", "b")
	writes(t, d, 1, "c")
	expect(t, "flush", d.Flush(), nil)
	holds(t, "flushed", d, "b", "c")
	writes(t, d, 1, "d")
	d.Restart(0)
	holds(t, "what was flushed is kept", d, "b", "c")
	writes(t, d, 0, "e")
	d.Arm(0)
	expect(t, "a flush that falls", d.Flush(), api.ErrDown)
	d.Restart(0)
	holds(t, "that keeps nothing", d, "b", "c")
}

func TestF2AFallKeepsTheWriteAway(t *testing.T) {
	d := fresh(t, 1)
	writes(t, d, 0, "a")
	d.Arm(0)
	expect(t, "the fall", d.Write(0, "b"), api.ErrDown)
	expect(t, "behind it", d.Write(0, "c"), api.ErrDown)
	d.Restart(math.MaxUint64)
	holds(t, "they were never written", d, "a")
}

func TestF3EachChoice(t *testing.T) {
	at := []int{0, 1, 0, 2, 1, 0}
	for keep := range uint64(1) << len(at) {
		d := fresh(t, 3)
		writes(t, d, 0, "was")
		expect(t, "flush", d.Flush(), nil)
		want := []string{"was", none, none}
		for i, a := range at {
			writes(t, d, a, fmt.Sprint("new", i))
			if keep>>i&1 == 1 {
				want[a] = fmt.Sprint("new", i)
			}
		}
		d.Restart(keep)
		holds(t, keep, d, want...)
		// What came to be so is kept, whatever comes next.
		d.Restart(0)
		holds(t, keep, d, want...)
		d.Restart(math.MaxUint64)
		holds(t, keep, d, want...)
	}
}

func TestF3BitsComeRoundAgain(t *testing.T) {
	for bit := range 64 {
		d := fresh(t, 2)
		for i := range 150 {
			writes(t, d, i%2, fmt.Sprint(i))
		}
		want := []string{none, none}
		for i := range 150 {
			if i%64 == bit {
				want[i%2] = fmt.Sprint(i)
			}
		}
		d.Restart(1 << bit)
		holds(t, bit, d, want...)
	}
	d := fresh(t, 1)
	for i := range 65 {
		writes(t, d, 0, fmt.Sprint(i))
	}
	d.Restart(1<<63 | 1)
	holds(t, "the last one has the bit 0", d, "64")
}

func TestF3NumbersBeginAnew(t *testing.T) {
	for what, anew := range map[string]func(d *Disk){
		"flush":   func(d *Disk) { expect(t, "flush", d.Flush(), nil) },
		"restart": func(d *Disk) { d.Restart(math.MaxUint64) },
	} {
		d := fresh(t, 2)
		writes(t, d, 0, "a", "b", "c")
		anew(d)
		// What is no Write, or isn't carried out, has no number.
		expect(t, "no sector", d.Write(2, "x"), api.ErrBound)
		expect(t, "too long", d.Write(0, strings.Repeat("x", api.Sector+1)), api.ErrBound)
		d.Arm(-1)
		writes(t, d, 0, "d")
		d.Arm(0)
		expect(t, "fall", d.Write(1, "x"), api.ErrDown)
		d.Restart(1)
		holds(t, what, d, "d", none)
		writes(t, d, 1, "e", "f")
		d.Restart(2)
		holds(t, what, d, "d", "f")
	}
}

func TestF3RestartIsUpAndUnarmed(t *testing.T) {
	for _, n := range []int{0, 2} {
		d := fresh(t, 1)
		d.Arm(n)
		for range n {
			expect(t, "step", d.Flush(), nil)
		}
		expect(t, "fall", d.Flush(), api.ErrDown)
		d.Restart(0)
		if d.Down() {
			t.Error("it is still down")
		}
		for range 9 {
			expect(t, "unarmed", d.Flush(), nil)
		}
	}
	// Also one that did not fall is unarmed, and loses what isn't kept.
	d := fresh(t, 1)
	d.Arm(1)
	writes(t, d, 0, "a")
	d.Restart(0)
	holds(t, "not down", d, none)
	for range 9 {
		expect(t, "unarmed", d.Flush(), nil)
	}
}

// plain: a disk that has a list of all that was written, to be held against the other one.
type plain struct {
	kept []string
	at   []int
	data []string
	left int // below 0: not armed
	down bool
}

func (p *plain) settle(keep func(i int) bool) {
	for i, at := range p.at {
		if keep(i) {
			p.kept[at] = p.data[i]
		}
	}
	p.at, p.data = nil, nil
}

func (p *plain) read(at int) string {
	for i := len(p.at) - 1; i >= 0; i-- {
		if p.at[i] == at {
			return p.data[i]
		}
	}
	return p.kept[at]
}

func (p *plain) step() bool {
	p.down = p.down || p.left == 0
	if !p.down && p.left > 0 {
		p.left--
	}
	return !p.down
}

// die: numbers that look drawn, the same each time.
type die uint64

func (d *die) n(most int) int {
	*d = *d*6364136223846793005 + 1442695040888963407
	return int(uint64(*d>>33) % uint64(most))
}

// move: one thing is done to both disks.
func move(t *testing.T, roll *die, d *Disk, p *plain) {
	t.Helper()
	var want error
	switch c := roll.n(200); {
	case c < 2:
		n := roll.n(40) - 2
		d.Arm(n)
		p.left = n
	case c < 5:
		keep := uint64(roll.n(1<<31))<<33 ^ uint64(roll.n(1<<31))
		d.Restart(keep)
		p.settle(func(i int) bool { return keep>>(i%64)&1 == 1 })
		p.down, p.left = false, -1
	case c < 7:
		if p.step() {
			p.settle(func(int) bool { return true })
		} else {
			want = api.ErrDown
		}
		expect(t, "flush", d.Flush(), want)
	default:
		at, s := roll.n(len(p.kept)), strings.Repeat(string(rune('a'+roll.n(26))), roll.n(api.Sector+1))
		if p.step() {
			p.at, p.data = append(p.at, at), append(p.data, s)
		} else {
			want = api.ErrDown
		}
		expect(t, "write", d.Write(at, s), want)
	}
}

func TestF1ToF3AgainstAPlainOne(t *testing.T) {
	roll, most := die(8), 0
	for range 60 {
		n := 1 + roll.n(5)
		d, p := fresh(t, n), &plain{kept: make([]string, n), left: -1}
		for range 400 {
			move(t, &roll, d, p)
			most = max(most, len(p.at))
			if d.Down() != p.down {
				t.Fatalf("down: %v", d.Down())
			}
			for at := range n {
				if p.down {
					refuses(t, d, at, api.ErrDown)
				} else if got, err := d.Read(at); err != nil || got != full(p.read(at)) {
					t.Fatalf("sector %d: %q %v, want %q", at, got, err, p.read(at))
				}
			}
		}
	}
	if most < 130 {
		t.Errorf("at most %d writes were not kept: the bits did not come round twice", most)
	}
}

func TestZ1HeldMemoryHasABound(t *testing.T) {
	d := fresh(t, 3)
	for i := range 100000 {
		writes(t, d, i%3, "x")
	}
	for _, s := range d.sectors {
		if len(s.written) > 64 {
			t.Errorf("%d writes are held for one sector", len(s.written))
		}
	}
}
