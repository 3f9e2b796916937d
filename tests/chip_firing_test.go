package tests

import (
	"slices"
	"testing"
)

func TestPlacesThatCanFire(t *testing.T) {
	list := []int{0, 1, 2, 3, 60, 1, 2}
	for place, chips := range list {
		wantCanFire(t, list, place, chips >= 2)
	}
	for _, place := range []int{0, 7, 19} {
		wantCanFire(t, repeated(60, 20), place, true)
		wantCanFire(t, repeated(2, 20), place, true)
		wantCanFire(t, repeated(1, 20), place, false)
		wantCanFire(t, repeated(0, 20), place, false)
	}
}

func TestSingleFirings(t *testing.T) {
	for _, r := range []struct {
		list  []int
		place int
		want  []int
		lost  int
	}{
		{[]int{2, 0, 0}, 0, []int{0, 1, 0}, 1},
		{[]int{0, 0, 2}, 2, []int{0, 1, 0}, 1},
		{[]int{0, 2, 0}, 1, []int{1, 0, 1}, 0},
		{[]int{5, 7, 3}, 0, []int{3, 8, 3}, 1},
		{[]int{5, 7, 3}, 1, []int{6, 5, 4}, 0},
		{[]int{5, 7, 3}, 2, []int{5, 8, 1}, 1},
		{[]int{2, 0}, 0, []int{0, 1}, 1},
		{[]int{0, 2}, 1, []int{1, 0}, 1},
		{[]int{60, 60}, 0, []int{58, 61}, 1},
		{[]int{60, 60}, 1, []int{61, 58}, 1},
		{[]int{60, 60, 60}, 1, []int{61, 58, 61}, 0},
		{repeated(60, 20), 0, append([]int{58, 61}, repeated(60, 18)...), 1},
		{repeated(60, 20), 19, append(repeated(60, 18), 61, 58), 1},
		{repeated(60, 20), 18, append(repeated(60, 17), 61, 58, 61), 0},
	} {
		wantFired(t, r.list, r.place, r.want, r.lost)
		wantInOrder(t, r.list, []int{r.place}, r.want)
	}
}

func TestPlacesThatCannotFire(t *testing.T) {
	for _, list := range [][]int{{0}, {1}, {0, 1, 0}, {1, 1, 1}, repeated(1, 20), repeated(0, 20)} {
		for place := range list {
			wantCanFire(t, list, place, false)
			wantNotFired(t, list, place)
			wantNoOrder(t, list, []int{place})
		}
	}
	wantNotFired(t, []int{60, 1, 60}, 1)
	wantNotFired(t, []int{60, 0, 60}, 1)
	wantFired(t, []int{60, 2, 60}, 1, []int{61, 0, 61}, 0)
}

func TestFireAll(t *testing.T) {
	for _, r := range []struct {
		list, want []int
		lost       int
	}{
		// At rest, with no, one and two empty places.
		{[]int{1, 1, 1}, []int{1, 1, 1}, 0},
		{[]int{1, 0, 1}, []int{1, 0, 1}, 0},
		{[]int{0, 1, 0}, []int{0, 1, 0}, 0},
		{[]int{0, 0, 0}, []int{0, 0, 0}, 0},
		{repeated(1, 20), repeated(1, 20), 0},
		// Neighbours that fire both.
		{[]int{0, 2, 2, 0}, []int{1, 1, 1, 1}, 0},
		{[]int{1, 2, 3, 1}, []int{2, 1, 2, 2}, 0},
		{[]int{0, 2, 2, 2, 0}, []int{1, 1, 2, 1, 1}, 0},
		{[]int{0, 60, 60, 0}, []int{1, 59, 59, 1}, 0},
		// Both ends fire.
		{[]int{2, 0, 2}, []int{0, 2, 0}, 2},
		{[]int{2, 2}, []int{1, 1}, 2},
		{[]int{3, 1, 1, 4}, []int{1, 2, 2, 2}, 2},
		{[]int{60, 60}, []int{59, 59}, 2},
		{[]int{60, 60, 60}, []int{59, 60, 59}, 2},
		// One end fires.
		{[]int{2, 0, 0}, []int{0, 1, 0}, 1},
		{[]int{0, 0, 2}, []int{0, 1, 0}, 1},
		// A place that others make able to fire does not fire with them.
		{[]int{1, 2, 1}, []int{2, 0, 2}, 0},
		{[]int{2, 1, 1}, []int{0, 2, 1}, 1},
		{[]int{1, 1, 2}, []int{1, 2, 0}, 1},
		{[]int{2, 1, 2}, []int{0, 3, 0}, 2},
		{[]int{2, 0, 3, 1, 0}, []int{0, 2, 1, 2, 0}, 1},
	} {
		wantChip(t, "FireAll", r.list, r.want, r.lost, true)
	}
}

func TestNoOrder(t *testing.T) {
	for _, list := range [][]int{{0}, {60}, {0, 3, 0}, {1, 1}, repeated(60, 20)} {
		wantInOrder(t, list, nil, list)
		wantInOrder(t, list, []int{}, list)
	}
}

func TestOrdersOfFirings(t *testing.T) {
	wantInOrder(t, []int{0, 4, 0}, []int{1}, []int{1, 2, 1})
	wantInOrder(t, []int{0, 4, 0}, []int{1, 1}, []int{2, 0, 2})
	wantInOrder(t, []int{0, 4, 0}, []int{1, 1, 0, 2, 1}, []int{1, 0, 1})
	wantInOrder(t, []int{0, 4, 0}, []int{1, 1, 2, 0, 1}, []int{1, 0, 1})
	wantInOrder(t, []int{0, 4, 0}, []int{1, 1, 0}, []int{0, 1, 2})
	wantInOrder(t, []int{60, 60, 60}, []int{0, 0, 2, 2}, []int{56, 64, 56})
	wantInOrder(t, []int{60, 60, 60}, []int{0, 0, 2, 2, 1}, []int{57, 62, 57})

	// These cannot fire at first, but can behind another one.
	wantInOrder(t, []int{1, 2, 1}, []int{1, 0}, []int{0, 1, 2})
	wantInOrder(t, []int{1, 2, 1}, []int{1, 2}, []int{2, 1, 0})
	wantInOrder(t, []int{0, 4, 0}, []int{1, 1, 0, 2}, []int{0, 2, 0})
	wantNoOrder(t, []int{1, 2, 1}, []int{0})
	wantNoOrder(t, []int{1, 2, 1}, []int{0, 1})
	wantNoOrder(t, []int{1, 2, 1}, []int{2, 1})
	wantNoOrder(t, []int{0, 4, 0}, []int{1, 0})

	// These can at first, but not for ever.
	wantNoOrder(t, []int{0, 4, 0}, []int{1, 1, 1})
	wantNoOrder(t, []int{0, 4, 0}, []int{1, 1, 0, 2, 1, 1})
	wantNoOrder(t, []int{0, 4, 0}, []int{1, 1, 0, 2, 1, 0})
}

func TestLongOrders(t *testing.T) {
	full := repeated(60, 20)
	var order []int
	for k := range 100 {
		order = append(order, k%20)
	}
	behind := slices.Clone(full)
	behind[0], behind[19] = 55, 55
	wantInOrder(t, full, order, behind)
	wantNoOrder(t, full, append(slices.Clone(order), 0))
	wantNoOrder(t, full, append([]int{0}, order...))
	wantNoOrder(t, full, slices.Repeat(order, 2000))

	toAndFro := append(repeated(5, 30), repeated(4, 40)...)
	toAndFro = append(toAndFro, repeated(6, 30)...)
	wantInOrder(t, full, toAndFro, append(append([]int{60, 60, 60, 100, 10, 70, 30, 90}, repeated(60, 11)...), 60))
	wantNoOrder(t, repeated(1, 20), repeated(0, 101))
	wantNoOrder(t, []int{60}, repeated(0, 100))
}

func TestOrdersWithPlacesThatThereAreNot(t *testing.T) {
	for _, list := range [][]int{{60}, {60, 60}, {0, 4, 0}, repeated(60, 20)} {
		able := slices.IndexFunc(list, func(chips int) bool { return chips >= 2 })
		for _, place := range append([]int{-1, -2, len(list), len(list) + 1, 20, 21, 22}, wildNumbers...) {
			wantNoOrder(t, list, []int{place})
			wantNoOrder(t, list, []int{able, place})
			wantNoOrder(t, list, []int{place, able})
		}
	}
}
