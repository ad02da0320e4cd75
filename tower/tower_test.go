package tower

import (
	"math"
	"slices"
	"testing"

	"coachhouse/api"
)

// wrong: numbers that are in no bounds of this layer.
var wrong = []int{math.MinInt, -1, 0, math.MaxInt}

func size(long, high, heavy int) api.Size {
	return api.Size{Long: long, High: high, Heavy: heavy}
}

func place(level, side, depth int) api.Place {
	return api.Place{Level: level, Side: side, Depth: depth}
}

// expect holds errors against each other as bare values: a wrapped one, or another type, is not the same.
func expect(t *testing.T, what any, got, want error) {
	t.Helper()
	if got != want {
		t.Errorf("%v: %v, want %v", what, got, want)
	}
}

func TestA1CheckSize(t *testing.T) {
	for _, n := range []int{1, 2, 50, api.MaxSize} {
		for _, s := range []api.Size{size(n, 1, 1), size(1, n, 1), size(1, 1, n), size(n, n, n)} {
			expect(t, s, CheckSize(s), nil)
		}
	}
	for _, n := range append(slices.Clone(wrong), api.MaxSize+1) {
		for _, s := range []api.Size{size(n, 1, 1), size(1, n, 1), size(1, 1, n), size(n, n, n)} {
			expect(t, s, CheckSize(s), api.ErrBound)
		}
	}
}

func TestA1CheckCar(t *testing.T) {
	ok := size(1, 2, 3)
	for _, id := range []int{1, 2, api.MaxCar} {
		expect(t, id, CheckCar(api.Car{ID: id, Size: ok}), nil)
		expect(t, id, CheckCar(api.Car{ID: id, Size: size(1, 0, 1)}), api.ErrBound)
		expect(t, id, CheckCar(api.Car{ID: id, Size: size(1, 1, api.MaxSize+1)}), api.ErrBound)
	}
	for _, id := range append(slices.Clone(wrong), api.MaxCar+1) {
		expect(t, id, CheckCar(api.Car{ID: id, Size: ok}), api.ErrBound)
	}
}

func TestA1Fits(t *testing.T) {
	room := size(4, 5, 6)
	for _, s := range []api.Size{room, size(1, 1, 1), size(4, 1, 1), size(1, 5, 1), size(1, 1, 6)} {
		if !Fits(s, room) {
			t.Errorf("%v does not fit %v", s, room)
		}
	}
	for _, s := range []api.Size{size(5, 5, 6), size(4, 6, 6), size(4, 5, 7), size(math.MaxInt, 1, 1)} {
		if Fits(s, room) {
			t.Errorf("%v fits %v", s, room)
		}
	}
	if least, most := size(math.MinInt, math.MinInt, math.MinInt), size(math.MaxInt, math.MaxInt, math.MaxInt); !Fits(least, most) || Fits(most, least) {
		t.Error("the least and the most of all numbers")
	}
}

func TestA2Check(t *testing.T) {
	one, two, zero, big := size(1, 1, 1), size(2, 2, 2), size(1, 0, 1), size(1, 1, api.MaxSize+1)
	for _, c := range []struct {
		levels []api.Size
		want   error
	}{
		{nil, api.ErrMany},
		{[]api.Size{}, api.ErrMany},
		{[]api.Size{one}, nil},
		{[]api.Size{one, two}, nil},
		{[]api.Size{two, two}, nil},
		{[]api.Size{one, two, one, two}, nil},
		{[]api.Size{one, one, one, one, one}, api.ErrMany},
		{[]api.Size{zero, zero, zero, zero, zero}, api.ErrMany},
		{make([]api.Size, 1000), api.ErrMany},
		{[]api.Size{zero}, api.ErrBound},
		{[]api.Size{one, zero, two}, api.ErrBound},
		{[]api.Size{one, big}, api.ErrBound},
		{[]api.Size{two, one}, api.ErrShape},
		{[]api.Size{one, two, one}, api.ErrShape},
		{[]api.Size{size(1, 1, 2), size(2, 2, 1)}, api.ErrShape},
		{[]api.Size{size(1, 2, 1), size(2, 1, 2)}, api.ErrShape},
		{[]api.Size{size(2, 1, 1), size(1, 2, 2)}, api.ErrShape},
		// Of several levels the first one's error is told, of one level the first.
		{[]api.Size{two, zero, one}, api.ErrShape},
		{[]api.Size{two, one, zero}, api.ErrShape},
		{[]api.Size{zero, two, one}, api.ErrBound},
		{[]api.Size{big, one}, api.ErrBound},
	} {
		expect(t, c.levels, Check(c.levels), c.want)
	}
}

func TestZ2CheckTouchesNothing(t *testing.T) {
	behind := []api.Size{size(1, 1, 1), size(2, 2, 2), size(9, 9, 9), {}}
	kept := slices.Clone(behind)
	// What stands behind a list in memory would make each of these another answer.
	expect(t, "two of them", Check(behind[:2]), nil)
	expect(t, "none of them", Check(behind[:0]), api.ErrMany)
	if !slices.Equal(behind, kept) {
		t.Errorf("written into: %v", behind)
	}
}

func TestA3CheckPlace(t *testing.T) {
	for levels := 1; levels <= api.MaxLevels; levels++ {
		for level := -1; level <= api.MaxLevels+1; level++ {
			for side := -1; side <= 2; side++ {
				for depth := -1; depth <= 2; depth++ {
					p, want := place(level, side, depth), error(nil)
					if level < 1 || level > levels || side != 0 && side != 1 || depth != 0 && depth != 1 {
						want = api.ErrBound
					}
					expect(t, p, CheckPlace(p, levels), want)
				}
			}
		}
	}
	for _, n := range wrong {
		if n > 0 {
			continue
		}
		expect(t, n, CheckPlace(place(n, 0, 0), n), api.ErrBound)
		expect(t, n, CheckPlace(place(1, 0, 0), n), api.ErrBound)
	}
	for _, p := range []api.Place{place(math.MaxInt, 0, 0), place(math.MinInt, 0, 0), place(1, math.MaxInt, 0), place(1, math.MinInt, 0), place(1, 0, math.MaxInt), place(1, 0, math.MinInt)} {
		expect(t, p, CheckPlace(p, api.MaxLevels), api.ErrBound)
	}
	expect(t, "many levels", CheckPlace(place(50, 1, 1), 50), nil)
	expect(t, "many levels", CheckPlace(place(51, 1, 1), 50), api.ErrBound)
}

func TestA3Spare(t *testing.T) {
	for levels := 1; levels <= api.MaxLevels; levels++ {
		if got := Spare(levels); got != place(levels, 1, 0) {
			t.Errorf("%d levels: %v", levels, got)
		}
	}
}

func TestA3Places(t *testing.T) {
	for levels, want := range [][]api.Place{
		1: {place(1, 0, 1), place(1, 0, 0)},
		2: {place(1, 0, 1), place(1, 0, 0), place(1, 1, 1), place(1, 1, 0), place(2, 0, 1), place(2, 0, 0)},
		3: {place(1, 0, 1), place(1, 0, 0), place(1, 1, 1), place(1, 1, 0), place(2, 0, 1), place(2, 0, 0), place(2, 1, 1), place(2, 1, 0), place(3, 0, 1), place(3, 0, 0)},
		4: {place(1, 0, 1), place(1, 0, 0), place(1, 1, 1), place(1, 1, 0), place(2, 0, 1), place(2, 0, 0), place(2, 1, 1), place(2, 1, 0), place(3, 0, 1), place(3, 0, 0), place(3, 1, 1), place(3, 1, 0), place(4, 0, 1), place(4, 0, 0)},
	} {
		if got := Places(levels); !slices.Equal(got, want) {
			t.Errorf("%d levels: %v, want %v", levels, got, want)
		}
	}
}

func TestZ2PlacesAreFresh(t *testing.T) {
	a, b := Places(2), Places(2)
	for i := range a {
		a[i] = api.Place{}
	}
	_ = append(a, place(9, 9, 9))
	if slices.Contains(b, api.Place{}) || !slices.Equal(b, Places(2)) {
		t.Errorf("two lists share memory: %v", b)
	}
}

func TestA3Ext(t *testing.T) {
	for level := 1; level <= api.MaxLevels; level++ {
		for p, want := range map[api.Place]int{place(level, 0, 0): -1, place(level, 0, 1): -2, place(level, 1, 0): 1, place(level, 1, 1): 2} {
			if got := Ext(p); got != want {
				t.Errorf("%v: %d, want %d", p, got, want)
			}
		}
	}
}

func TestA3Front(t *testing.T) {
	for level := 1; level <= api.MaxLevels; level++ {
		for side := range 2 {
			for depth := range 2 {
				if got := Front(place(level, side, depth)); got != place(level, side, 0) {
					t.Errorf("in front of %v: %v", place(level, side, depth), got)
				}
			}
		}
	}
}

func TestZ1EveryCallEnds(t *testing.T) {
	for _, n := range append(slices.Clone(wrong), api.MaxLevels+1, 1<<40) {
		Spare(n)
		Places(n)
		Ext(place(n, n, n))
		Front(place(n, n, n))
	}
}
