package plant

import (
	"fmt"
	"maps"
	"testing"

	"coachhouse/api"
	"coachhouse/guard"
)

const acts = "-udlrgpocnx?"

// everywhere: all places of a tower of MaxLevels levels.
var everywhere = func() []api.Place {
	var l []api.Place
	for i := range api.MaxLevels {
		for _, side := range []int{0, 1} {
			l = append(l, place(i+1, side, 0), place(i+1, side, 1))
		}
	}
	return l
}()

// picture: all that a machine is, to be held against another one.
type picture struct {
	sensed api.Sensed
	cars   [4 * api.MaxLevels]int
	stalls int
	hurt   bool
}

func look(p *Plant) picture {
	l := picture{sensed: p.Sense(), stalls: p.stalls, hurt: p.hurt}
	for i, x := range everywhere {
		l.cars[i] = p.At(x)
	}
	return l
}

// present: how often each car is there.
func (l picture) present() map[int]int {
	n := map[int]int{}
	for _, id := range append(l.cars[:], l.sensed.Lift, l.sensed.Bay) {
		if id != 0 {
			n[id]++
		}
	}
	return n
}

func twin(p *Plant) *Plant {
	q := *p
	q.cars = maps.Clone(p.cars)
	return &q
}

// event: something that comes from outside; which car came, and which one left.
type event struct {
	name string
	do   func(p *Plant) (came, left int, err error)
}

func events(cars int) []event {
	l := []event{
		{"leave", func(p *Plant) (int, int, error) { id, err := p.Leave(); return 0, id, err }},
		{"come", func(p *Plant) (int, int, error) {
			if p.people > 0 { // one is as good as nine, for what is to be seen here
				return 0, 0, nil
			}
			return 0, 0, p.Walk(1)
		}},
		{"go", func(p *Plant) (int, int, error) { return 0, 0, p.Walk(-api.MaxPeople) }},
		{"stall", func(p *Plant) (int, int, error) { return 0, 0, p.Stall(1) }},
		{"wrong walk", func(p *Plant) (int, int, error) { return 0, 0, p.Walk(api.MaxPeople + 1) }},
		{"wrong arrival", func(p *Plant) (int, int, error) { return 0, 0, p.Arrive(0) }},
		{"wrong stall", func(p *Plant) (int, int, error) { return 0, 0, p.Stall(api.MaxStall + 1) }},
	}
	for i := range cars {
		id := i + 1
		l = append(l, event{fmt.Sprint("arrive ", id), func(p *Plant) (int, int, error) {
			err := p.Arrive(id)
			if err != nil {
				return 0, 0, err
			}
			return id, 0, nil
		}})
	}
	return l
}

// explore goes to every state that is reached from a new machine by what comes from outside and by the acts that
// pass, and asks see of each.
func explore(t *testing.T, levels, cars int, pass func(c byte, p *Plant) bool, see func(p *Plant)) {
	t.Helper()
	first := fresh(t, levels)
	seen := map[picture]struct{}{look(first): {}}
	work := []*Plant{first}
	reach := func(q *Plant) {
		l := look(q)
		if _, ok := seen[l]; !ok {
			seen[l] = struct{}{}
			work = append(work, q)
		}
	}
	for len(work) > 0 {
		p := work[len(work)-1]
		work = work[:len(work)-1]
		see(p)
		for _, c := range []byte(acts) {
			if pass(c, p) {
				q := twin(p)
				q.Step(c)
				reach(q)
			}
		}
		for _, e := range events(cars) {
			q := twin(p)
			e.do(q)
			reach(q)
		}
	}
	t.Logf("%d levels, %d cars: %d states", levels, cars, len(seen))
	if len(seen) < 1000 { // so that nothing passes for want of states

		t.Fatalf("%d states only", len(seen))
	}
}

// sizes: levels and cars of the machines that are gone through as a whole.
var sizes = []struct{ levels, cars int }{{1, 3}, {2, 2}}

func TestW1NothingGoesWrong(t *testing.T) {
	may := func(c byte, p *Plant) bool { return guard.May(c, p.Sense()) }
	for _, n := range sizes {
		explore(t, n.levels, n.cars, may, func(p *Plant) {
			if p.Hurt() {
				t.Fatalf("hurt by what may be done: %+v", look(p))
			}
		})
	}
}

func TestW1NothingIsForbiddenInVain(t *testing.T) {
	may := func(c byte, p *Plant) bool { return guard.May(c, p.Sense()) }
	for _, n := range sizes {
		explore(t, n.levels, n.cars, may, func(p *Plant) {
			p = twin(p)
			p.stalls = 0
			for _, c := range []byte(acts) {
				q := twin(p)
				q.Step(c)
				if !may(c, p) && !q.Hurt() && look(q) != look(p) {
					t.Fatalf("%c is forbidden, but does no harm: %+v", c, look(p))
				}
			}
		})
	}
}

func TestW2NoCarIsLost(t *testing.T) {
	all := func(byte, *Plant) bool { return true }
	for _, n := range sizes {
		explore(t, n.levels, n.cars, all, func(p *Plant) {
			before := look(p)
			for _, k := range before.present() {
				if k != 1 {
					t.Fatalf("a car is there %d times: %+v", k, before)
				}
			}
			for _, c := range []byte(acts) {
				q := twin(p)
				q.Step(c)
				if !maps.Equal(look(q).present(), before.present()) {
					t.Fatalf("%c: a car came, or was lost: %+v, then %+v", c, before, look(q))
				}
			}
			for _, e := range events(n.cars) {
				q := twin(p)
				came, left, err := e.do(q)
				want := before.present()
				if came != 0 {
					want[came]++
				}
				delete(want, left)
				if !maps.Equal(look(q).present(), want) {
					t.Fatalf("%s: a car came, or was lost: %+v, then %+v", e.name, before, look(q))
				}
				if err != nil && look(q) != before {
					t.Fatalf("%s: %v, but something is changed: %+v, then %+v", e.name, err, before, look(q))
				}
			}
		})
	}
}

func TestB3StallIsAllThatIsDone(t *testing.T) {
	all := func(byte, *Plant) bool { return true }
	explore(t, 1, 2, all, func(p *Plant) {
		for _, c := range []byte(acts) {
			q := twin(p)
			q.stalls = 2
			q.Step(c)
			want := look(p)
			want.stalls = 1
			if c == api.Rest {
				want.stalls = 2
			}
			if look(q) != want {
				t.Fatalf("%c while it stalls: %+v, want %+v", c, look(q), want)
			}
		}
	})
}

func TestB2SenseChangesNothing(t *testing.T) {
	all := func(byte, *Plant) bool { return true }
	explore(t, 1, 2, all, func(p *Plant) {
		before := look(p)
		for id := range 4 {
			x, ok := p.Where(id)
			if ok != (p.At(x) == id && id != 0) || !ok && x != (api.Place{}) {
				t.Fatalf("car %d is at %v, %v: %+v", id, x, ok, before)
			}
			if p.Has(id) != (before.present()[id] > 0) {
				t.Fatalf("has %d: %v: %+v", id, p.Has(id), before)
			}
		}
		p.Hurt()
		if look(p) != before {
			t.Fatalf("looking changes %+v", before)
		}
	})
}
