package tests

import (
	"fmt"
	"testing"

	"loop.example/g01333/impl"
)

func notChips() [][]int {
	lists := [][]int{nil, {}, {61}, {-1}, {62}, {-2}, {100}, {61, 0}, {0, 61}, {60, 61}, {61, 61}, {-1, 0}, {0, -1}, {-1, 61}, {0, 61, 0}, {0, -1, 0},
		{1, 1, -1}, {1, 0, -1}, {2, -2}, repeated(0, 21), repeated(1, 21), repeated(2, 21), repeated(60, 21), repeated(0, 40), oneHasAll(20, 19, 61),
		oneHasAll(20, 0, 61), oneHasAll(20, 0, -1), oneHasAll(20, 19, -1), append(repeated(1, 19), -1), append(repeated(60, 19), 61), make([]int, 100000)}
	for _, n := range wildNumbers {
		lists = append(lists, []int{n}, []int{n, 1}, []int{1, n}, []int{n, n}, []int{n, -n}, []int{1, n, 1}, repeated(n, 20), append(repeated(1, 19), n), repeated(n, 21))
	}
	return lists
}

func TestInvalidChips(t *testing.T) {
	for _, list := range notChips() {
		what := fmt.Sprintf(" of %.60s", fmt.Sprint(list))
		for _, c := range allChipCalls() {
			wantZero(t, c.name+what, c.call(list))
		}
		for _, n := range wildNumbers {
			for _, c := range placeCalls(n) {
				wantZero(t, c.name+what, c.call(list))
			}
		}
	}
}

func TestMostAndLeastChips(t *testing.T) {
	for _, places := range []int{1, 2, 3, 19, 20} {
		for _, list := range [][]int{repeated(0, places), repeated(1, places), repeated(2, places), repeated(59, places), repeated(60, places),
			oneHasAll(places, 0, 60), oneHasAll(places, places-1, 60)} {
			wantChip(t, "AreChips", list, true)
			for _, c := range chipCalls() {
				results := c.call(list)
				if results[len(results)-1] != true {
					t.Errorf("%s of %v failed", c.name, list)
				}
			}
		}
	}
}

func TestPlacesThatThereAreNot(t *testing.T) {
	for _, list := range [][]int{{0}, {60}, {2, 2}, {0, 3, 0}, {1, 1, 1}, repeated(1, 20), repeated(60, 20)} {
		for _, place := range append([]int{-1, -2, -len(list), len(list), len(list) + 1, len(list) + 2, 20, 21, 22, 1000}, wildNumbers...) {
			for _, c := range placeCalls(place) {
				wantZero(t, fmt.Sprint(c.name, " of ", list), c.call(list))
			}
		}
		for place := range list {
			can, ok := impl.CanFire(list, place)
			wantSame(t, "CanFire", []any{can, ok}, list[place] >= 2, true)
			behind, ok := impl.AddChip(list, place)
			if !ok || len(behind) != len(list) {
				t.Errorf("AddChip to %v at %d: %v, %v", list, place, behind, ok)
			}
		}
	}
}

func TestListsOfDifferentNumbersOfPlaces(t *testing.T) {
	for one := 1; one <= 20; one++ {
		for two := 1; two <= 20; two++ {
			same, sameOK := impl.AreSameClass(repeated(0, one), repeated(0, two))
			wantSame(t, fmt.Sprint("AreSameClass of none on ", one, two), []any{same, sameOK}, one == two, one == two)
			sum, sumOK := impl.AddComing(repeated(1, one), repeated(1, two))
			if one != two {
				wantZero(t, fmt.Sprint("AddComing of ones on ", one, two), []any{sum, sumOK})
			} else if !sumOK {
				t.Errorf("AddComing of ones on %d failed", one)
			}
		}
	}
}

func TestClassesOfListsThatAreNoChips(t *testing.T) {
	for _, list := range notChips() {
		for _, good := range [][]int{{0}, {1, 1}, {1, 0, 1}, repeated(1, 20)} {
			what := fmt.Sprintf(" of %v and %.60s", good, fmt.Sprint(list))
			same, ok := impl.AreSameClass(good, list)
			wantZero(t, "AreSameClass"+what, []any{same, ok})
			same, ok = impl.AreSameClass(list, good)
			wantZero(t, "AreSameClass, the other way,"+what, []any{same, ok})
			sum, ok := impl.AddComing(good, list)
			wantZero(t, "AddComing"+what, []any{sum, ok})
			sum, ok = impl.AddComing(list, good)
			wantZero(t, "AddComing, the other way,"+what, []any{sum, ok})
		}
	}
}

// Chips that do not come again have no sum, whether they are at rest or not, on either side.
func TestSumsOfChipsThatDoNotComeAgain(t *testing.T) {
	for _, bad := range [][]int{{2}, {60}, {0, 0}, {2, 1}, {1, 2}, {0, 2}, {0, 0, 1}, {0, 1, 0}, {1, 0, 0}, {0, 0, 0}, {1, 2, 1}, {1, 1, 60},
		repeated(0, 20), repeated(2, 20), repeated(60, 20)} {
		wantNoSum(t, bad, repeated(1, len(bad)))
		wantNoSum(t, repeated(1, len(bad)), bad)
		wantNoSum(t, bad, bad)
	}
}

func wantNoComing(t *testing.T, places int, class int) {
	t.Helper()
	list, ok := impl.ComingChips(places, class)
	wantZero(t, fmt.Sprint("ComingChips of ", places, class), []any{list, ok})
}

func TestPlacesAndClassesOfComingChips(t *testing.T) {
	for _, places := range append([]int{0, -1, -2, -20, 21, 22, 40}, wildNumbers...) {
		for _, class := range append([]int{0, 1, places, places + 1}, wildNumbers...) {
			wantNoComing(t, places, class)
		}
		list, ok := impl.NeutralChips(places)
		wantZero(t, fmt.Sprint("NeutralChips of ", places), []any{list, ok})
	}
	for places := 1; places <= 20; places++ {
		for _, class := range append([]int{-1, -2, -places, -places - 1, places + 1, places + 2, 2*places + 2}, wildNumbers...) {
			wantNoComing(t, places, class)
		}
		for class := range places + 1 {
			list, ok := impl.ComingChips(places, class)
			if !ok || len(list) != places {
				t.Errorf("ComingChips of %d and %d: %v, %v", places, class, list, ok)
			}
		}
		list, ok := impl.NeutralChips(places)
		if !ok || len(list) != places {
			t.Errorf("NeutralChips of %d: %v, %v", places, list, ok)
		}
	}
}
