// Package tower: levels, places, and which car fits where.
package tower

import "coachhouse/api"

const sides = 2

// CheckSize of a car, or of what a level has room for.
func CheckSize(s api.Size) error {
	if within(s.Long, 1, api.MaxSize) && within(s.High, 1, api.MaxSize) && within(s.Heavy, 1, api.MaxSize) {
		return nil
	}
	return api.ErrBound
}

// CheckCar: may it be one?
func CheckCar(c api.Car) error {
	if !within(c.ID, 1, api.MaxCar) {
		return api.ErrBound
	}
	return CheckSize(c.Size)
}

// Fits: has a level room for a size?
func Fits(s, room api.Size) bool {
	return s.Long <= room.Long && s.High <= room.High && s.Heavy <= room.Heavy
}

// Check levels: the last one has room for whatever fits any, as any car may be set aside there.
func Check(l []api.Size) error {
	if !within(len(l), 1, api.MaxLevels) {
		return api.ErrMany
	}
	last := l[len(l)-1]
	for _, s := range l {
		if err := CheckSize(s); err != nil {
			return err
		}
		if !Fits(s, last) {
			return api.ErrShape
		}
	}
	return nil
}

// CheckPlace of so many levels.
func CheckPlace(p api.Place, levels int) error {
	if within(p.Level, 1, levels) && within(p.Side, 0, 1) && within(p.Depth, 0, 1) {
		return nil
	}
	return api.ErrBound
}

// Spare: the place that is kept free.
func Spare(levels int) api.Place {
	return api.Place{Level: levels, Side: 1}
}

// Places of so many levels where cars may stay, in the order in which they are given: behind ahead of in front.
func Places(levels int) []api.Place {
	// A tower that can't be has no places: the list must not grow with a number that nobody checked.
	if !within(levels, 1, api.MaxLevels) {
		return nil
	}
	spare := Spare(levels)
	var places []api.Place
	for i := range levels {
		for side := range sides {
			front := api.Place{Level: i + 1, Side: side}
			if front == spare {
				continue
			}
			behind := front
			behind.Depth = 1
			places = append(places, behind, front)
		}
	}
	return places
}

// Ext: how far the shuttle goes to a place.
func Ext(p api.Place) int {
	if p.Side == 0 {
		return -(p.Depth + 1)
	}
	return p.Depth + 1
}

// Front of a place: the one in front of it.
func Front(p api.Place) api.Place {
	p.Depth = 0
	return p
}

func within(n, least, most int) bool { return least <= n && n <= most }
