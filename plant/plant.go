// Package plant: the machine itself.
package plant

import (
	"coachhouse/api"
	"coachhouse/tower"
)

// Plant of some levels.
type Plant struct {
	levels      int
	height, ext int
	open        bool
	people      int
	lift, bay   int               // which car; 0: none
	cars        map[api.Place]int // a place without a car has no key, so that no car is ever 0
	stalls      int
	hurt        bool
}

// New plant: it is empty, below, and open.
func New(levels int) (*Plant, error) {
	if levels < 1 || levels > api.MaxLevels {
		return nil, api.ErrBound
	}
	return &Plant{levels: levels, open: true, cars: map[api.Place]int{}}, nil
}

// Sense what is seen.
func (p *Plant) Sense() api.Sensed {
	return api.Sensed{
		Height:  p.height,
		Ext:     p.ext,
		Door:    p.open,
		People:  p.people,
		Lift:    p.lift,
		Bay:     p.bay,
		Here:    p.carAt(p.ext) != 0,
		ToLeft:  p.carAt(p.ext-1) != 0,
		ToRight: p.carAt(p.ext+1) != 0,
	}
}

// At a place: which car.
func (p *Plant) At(x api.Place) int { return p.cars[x] }

// Where a car is, if it is in a place.
func (p *Plant) Where(id int) (api.Place, bool) {
	// A car stands in one place at most, so the order of the map doesn't show.
	for x, car := range p.cars {
		if car == id {
			return x, true
		}
	}
	return api.Place{}, false
}

// Has: is a car anywhere?
func (p *Plant) Has(id int) bool {
	if id == 0 {
		return false
	}
	_, placed := p.Where(id)
	return placed || p.lift == id || p.bay == id
}

// Hurt: did something go wrong?
func (p *Plant) Hurt() bool { return p.hurt }

// Step: what is done in a tick.
func (p *Plant) Step(c byte) {
	if p.stalls > 0 && c != api.Rest {
		p.stalls--
		return
	}
	switch c {
	case api.Up:
		p.raise(1)
	case api.Down:
		p.raise(-1)
	case api.Left:
		p.slide(-1)
	case api.Right:
		p.slide(1)
	case api.Grab:
		p.grab()
	case api.Put:
		p.put()
	case api.Open:
		p.hurtIf(!p.below())
		p.open = true
	case api.Shut:
		p.hurtIf(p.people != 0)
		p.open = false
	case api.In:
		p.takeIn()
	case api.Out:
		p.giveOut()
	}
}

// Walk: people come in (or leave), while the door is open.
func (p *Plant) Walk(n int) error {
	if n < -api.MaxPeople || n > api.MaxPeople {
		return api.ErrBound
	}
	if !p.open {
		return api.ErrState
	}
	p.people = min(max(p.people+n, 0), api.MaxPeople)
	return nil
}

// Arrive: a car comes into the bay.
func (p *Plant) Arrive(id int) error {
	switch {
	case id < 1 || id > api.MaxCar:
		return api.ErrBound
	case !p.open || p.bay != 0:
		return api.ErrState
	case p.Has(id):
		return api.ErrExist
	}
	p.bay = id
	return nil
}

// Leave: the car in the bay leaves: which one.
func (p *Plant) Leave() (int, error) {
	if !p.open || p.bay == 0 {
		return 0, api.ErrState
	}
	id := p.bay
	p.bay = 0
	return id, nil
}

// Stall: so many of the next things that are done come to nothing.
func (p *Plant) Stall(n int) error {
	if n < 0 || n > api.MaxStall {
		return api.ErrBound
	}
	p.stalls = n
	return nil
}

// end: the place where the shuttle's end would be, reaching so far at this height.
func (p *Plant) end(ext int) (api.Place, bool) {
	if p.height <= 0 || p.height%api.Step != 0 || ext == 0 {
		return api.Place{}, false
	}
	x := api.Place{Level: p.height / api.Step, Side: 1, Depth: ext - 1}
	if ext < 0 {
		x.Side, x.Depth = 0, -ext-1
	}
	// Sense looks one farther than the shuttle reaches, where there is no place.
	if tower.CheckPlace(x, p.levels) != nil {
		return api.Place{}, false
	}
	return x, true
}

func (p *Plant) carAt(ext int) int {
	x, ok := p.end(ext)
	if !ok {
		return 0
	}
	return p.At(x)
}

func (p *Plant) hurtIf(wrong bool) { p.hurt = p.hurt || wrong }

func (p *Plant) raise(by int) {
	p.hurtIf(p.ext != 0 || p.open || p.people != 0)
	p.height = min(max(p.height+by, 0), p.levels*api.Step)
}

func (p *Plant) slide(by int) {
	ext := p.ext + by
	if ext < -api.Reach || ext > api.Reach {
		return
	}
	p.ext = ext
	_, placed := p.end(ext)
	p.hurtIf(ext != 0 && !placed)
	p.hurtIf(p.lift != 0 && p.carAt(ext) != 0)
}

func (p *Plant) grab() {
	x, ok := p.end(p.ext)
	if !ok || p.lift != 0 {
		return
	}
	p.lift = p.At(x)
	delete(p.cars, x)
}

func (p *Plant) put() {
	x, ok := p.end(p.ext)
	if !ok || p.lift == 0 || p.At(x) != 0 {
		return
	}
	p.cars[x] = p.lift
	p.lift = 0
}

func (p *Plant) takeIn() {
	p.hurtIf(p.open || p.people != 0)
	if p.below() && p.lift == 0 {
		p.lift, p.bay = p.bay, 0
	}
}

func (p *Plant) giveOut() {
	p.hurtIf(p.open || p.people != 0)
	if p.below() && p.bay == 0 {
		p.bay, p.lift = p.lift, 0
	}
}

func (p *Plant) below() bool { return p.height == 0 && p.ext == 0 }
