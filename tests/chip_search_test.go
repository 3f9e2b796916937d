package tests

import (
	"fmt"
	"slices"
	"testing"

	"loop.example/g01333/impl"
)

// The walks of this file know only what one firing is: chips are fired one place at a time, in orders of several kinds.

type chipWalk struct {
	list        []int
	firings     []int
	left, right int
}

func startOf(list []int) chipWalk {
	return chipWalk{list: slices.Clone(list), firings: make([]int, len(list))}
}

func (w *chipWalk) fire(place int) {
	w.list[place] -= 2
	w.firings[place]++
	if place == 0 {
		w.left++
	} else {
		w.list[place-1]++
	}
	if place == len(w.list)-1 {
		w.right++
	} else {
		w.list[place+1]++
	}
}

func (w *chipWalk) able() []int {
	var places []int
	for place, chips := range w.list {
		if chips > 1 {
			places = append(places, place)
		}
	}
	return places
}

// walk fires until rest, each time the place that choose takes of those that are able.
func walk(list []int, choose func(list []int, able []int) int) chipWalk {
	w := startOf(list)
	for able := w.able(); len(able) > 0; able = w.able() {
		w.fire(choose(w.list, able))
	}
	return w
}

func leftmost(_ []int, able []int) int  { return able[0] }
func rightmost(_ []int, able []int) int { return able[len(able)-1] }

func fullest(list []int, able []int) int {
	return slices.MaxFunc(able, func(a int, b int) int { return list[a] - list[b] })
}

func leastFull(list []int, able []int) int {
	return slices.MinFunc(able, func(a int, b int) int { return list[a] - list[b] })
}

func anyOf(next func(int) int) func([]int, []int) int {
	return func(_ []int, able []int) int { return able[next(len(able))] }
}

// allOnce fires each place that could fire before.
func allOnce(list []int) chipWalk {
	w := startOf(list)
	for _, place := range w.able() {
		w.fire(place)
	}
	return w
}

func roundsOf(list []int) int {
	rounds := 0
	for w := allOnce(list); !slices.Equal(w.list, list); w = allOnce(list) {
		list = w.list
		rounds++
	}
	return rounds
}

func checkWalk(t *testing.T, list []int, w chipWalk) {
	t.Helper()
	wantChip(t, "RestOfChips", list, w.list, true)
	wantChip(t, "FiringsOf", list, w.firings, true)
	wantChip(t, "LostChips", list, w.left, w.right, true)
}

// checkChips holds all functions of one list against walks.
func checkChips(t *testing.T, list []int, next func(int) int) {
	t.Helper()
	w := walk(list, leftmost)
	checkWalk(t, list, w)
	checkWalk(t, list, walk(list, rightmost))
	checkWalk(t, list, walk(list, fullest))
	checkWalk(t, list, walk(list, leastFull))
	checkWalk(t, list, walk(list, anyOf(next)))
	once := allOnce(list)
	wantChip(t, "FireAll", list, once.list, once.left+once.right, true)
	wantChip(t, "RoundsToRest", list, roundsOf(list), true)
	checkPlaces(t, list)
	checkSums(t, list, w)
}

// checkPlaces fires and adds at each place.
func checkPlaces(t *testing.T, list []int) {
	t.Helper()
	for place, chips := range list {
		wantCanFire(t, list, place, chips > 1)
		if chips > 1 {
			w := startOf(list)
			w.fire(place)
			wantFired(t, list, place, w.list, w.left+w.right)
		} else {
			wantNotFired(t, list, place)
		}
		more := slices.Clone(list)
		more[place]++
		wantAdded(t, list, place, walk(more, leftmost).list)
	}
}

// checkSums holds the results against each other: no chips are made, and no others than told are lost.
func checkSums(t *testing.T, list []int, w chipWalk) {
	t.Helper()
	rest, _ := impl.RestOfChips(list)
	left, right, _ := impl.LostChips(list)
	if sumOf(list) != sumOf(rest)+left+right || slices.Max(rest) > 1 {
		t.Errorf("%v comes to rest at %v with %d and %d lost", list, rest, left, right)
	}
	wantChip(t, "RoundsToRest", rest, 0, true)
	wantChip(t, "RestOfChips", rest, rest, true)
	wantChip(t, "DoComeAgain", list, slices.Max(list) < 2 && sumOf(list) >= len(list)-1, true)
	class, ok := impl.ClassOfChips(list)
	wantSame(t, fmt.Sprint("ClassOfChips of ", list), []any{class, ok}, classOf(list), true)
	wantSameClass(t, list, w.list, true)
	mirrored, _ := impl.MirrorChips(list)
	slices.Reverse(rest)
	wantChip(t, "RestOfChips", mirrored, rest, true)
	wantChip(t, "LostChips", mirrored, right, left, true)
	slices.Reverse(mirrored)
	wantSame(t, "the chips mirrored twice", []any{mirrored}, list)
}

// classOf walks along the chips one by one.
func classOf(list []int) int {
	class := 0
	for place, chips := range list {
		for range chips {
			class = (class + place + 1) % (len(list) + 1)
		}
	}
	return class
}

func TestAllSmallChips(t *testing.T) {
	next := random(42)
	for k, most := range []int{60, 12, 6, 4, 3, 2, 2} {
		eachList(k+1, most, func(list []int) { checkChips(t, list, next) })
	}
}

func someChips(next func(int) int, places int, kind int) []int {
	list := make([]int, places)
	for k := range list {
		switch kind {
		case 0:
			list[k] = next(61)
		case 1:
			list[k] = 60 * next(2)
		case 2:
			list[k] = next(3)
		default:
			list[k] = next(2)
		}
	}
	if kind == 3 {
		list[next(places)] = next(61)
	}
	return list
}

func TestManyChips(t *testing.T) {
	next := random(43)
	for k := range 120 {
		checkChips(t, someChips(next, 1+k%20, k%4), next)
	}
	checkChips(t, repeated(60, 20), next)
}

// Any order of firings in which each place can fire keeps the class, and leads to the same rest; up to 100 of them are
// done at once.
func TestFiringKeepsTheClassAndTheRest(t *testing.T) {
	next := random(44)
	for k := range 300 {
		list := someChips(next, 1+k%20, k%4)
		rest, _ := impl.RestOfChips(list)
		w, order := startOf(list), []int{}
		for able := w.able(); len(able) > 0 && len(order) < 100; able = w.able() {
			place := able[next(len(able))]
			w.fire(place)
			order = append(order, place)
		}
		wantInOrder(t, list, order, w.list)
		behind, _, _ := impl.FireAll(list)
		wantSameClass(t, list, behind, true)
		wantChip(t, "RestOfChips", behind, rest, true)
		if classOf(w.list) != classOf(list) || !slices.Equal(walk(w.list, rightmost).list, rest) {
			t.Errorf("%v becomes %v in the order %v", list, w.list, order)
		}
		if impl.AreChips(w.list) {
			wantSameClass(t, list, w.list, true)
			wantChip(t, "RestOfChips", w.list, rest, true)
		}
	}
}

// An order goes on just as long as places can fire: one more firing fails if its place cannot.
func TestOrdersUpToRest(t *testing.T) {
	next := random(45)
	for k := range 200 {
		list := someChips(next, 1+k%5, 2)
		w, order := startOf(list), []int{}
		for able := w.able(); len(able) > 0; able = w.able() {
			order = append(order, able[next(len(able))])
			w.fire(order[len(order)-1])
		}
		rest, _ := impl.RestOfChips(list)
		wantInOrder(t, list, order, rest)
		for place := range list {
			wantNoOrder(t, list, append(slices.Clone(order), place))
		}
	}
}

// comingOf finds the chips that come again by what the word says: those at rest that are come to again and again if
// chips are added, wherever, for ever.
func comingOf(places int) map[string]bool {
	all := map[string]bool{}
	front := [][]int{walk(repeated(60, places), leftmost).list}
	for len(front) > 0 {
		list := front[0]
		front = front[1:]
		if all[fmt.Sprint(list)] {
			continue
		}
		all[fmt.Sprint(list)] = true
		for place := range list {
			more := slices.Clone(list)
			more[place]++
			front = append(front, walk(more, leftmost).list)
		}
	}
	return all
}

func TestChipsThatComeAgainByAdding(t *testing.T) {
	for places := 1; places <= 10; places++ {
		coming := comingOf(places)
		eachList(places, 1, func(list []int) {
			wantChip(t, "DoComeAgain", list, coming[fmt.Sprint(list)], true)
		})
	}
}

func TestOneComingListInEachClass(t *testing.T) {
	for places := 1; places <= 10; places++ {
		counts := make([]int, places+1)
		eachList(places, 1, func(list []int) {
			if again, _ := impl.DoComeAgain(list); again {
				class, _ := impl.ClassOfChips(list)
				counts[class]++
				wantComing(t, places, class, list)
			}
		})
		wantSame(t, fmt.Sprint("the classes of ", places), []any{counts}, repeated(1, places+1))
	}
}

func TestComingChipsOfAllPlaces(t *testing.T) {
	for places := 1; places <= 20; places++ {
		for class := range places + 1 {
			list, _ := impl.ComingChips(places, class)
			wantChip(t, "DoComeAgain", list, true, true)
			wantChip(t, "ClassOfChips", list, class, true)
		}
		neutral, _ := impl.NeutralChips(places)
		wantComing(t, places, 0, neutral)
	}
}

// Sums come again, have the class of the sum, and are those of chips put together and left to rest; neutral chips
// change none.
func TestAllSumsOfComingChips(t *testing.T) {
	for places := 1; places <= 20; places++ {
		neutral, _ := impl.NeutralChips(places)
		for one := range places + 1 {
			a, _ := impl.ComingChips(places, one)
			wantSum(t, a, neutral, a)
			wantSum(t, neutral, a, a)
			for two := range places + 1 {
				b, _ := impl.ComingChips(places, two)
				both := slices.Clone(a)
				for k := range b {
					both[k] += b[k]
				}
				sum, _ := impl.ComingChips(places, (one+two)%(places+1))
				wantSum(t, a, b, sum)
				wantSame(t, fmt.Sprint("the rest of ", both), []any{walk(both, leftmost).list}, sum)
			}
		}
	}
}
