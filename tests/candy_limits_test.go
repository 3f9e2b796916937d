package tests

import (
	"fmt"
	"testing"

	"loop.example/g01333/impl"
)

func TestCandyConstants(t *testing.T) {
	if impl.MaxChildren != 12 || impl.MaxCandies != 200 {
		t.Error("the constants are", impl.MaxChildren, impl.MaxCandies)
	}
}

func notCandies() [][]int {
	lists := [][]int{nil, {}, {0}, {2}, {200}, {201}, {-1}, repeated(0, 13), repeated(1, 13), repeated(2, 13), repeated(200, 13),
		{201, 0}, {0, 201}, {201, 201}, {202, 202}, {200, 201}, {-1, 0}, {0, -1}, {-1, -1}, {-2, -2}, {3, 1, -1}, {3, -1, 0}, {3, 201, 0}, {400, 0},
		append(repeated(0, 11), 201), append(repeated(0, 11), -1), append(repeated(5, 12), -1), {1000, 1000}, make([]int, 100000)}
	for _, n := range wildNumbers {
		lists = append(lists, []int{n}, []int{n, 1}, []int{1, n}, []int{n, n}, []int{n, -n}, []int{3, n, 0}, repeated(n, 12), append(repeated(4, 11), n), repeated(n, 13))
	}
	return lists
}

func TestInvalidCandies(t *testing.T) {
	for _, list := range notCandies() {
		what := fmt.Sprintf(" of %.60s", fmt.Sprint(list))
		for _, c := range append(candyCalls(), numberedCalls()...) {
			wantZero(t, c.name+what, c.call(list))
		}
	}
}

func TestMostAndLeastCandies(t *testing.T) {
	for _, size := range []int{2, 3, 11, 12} {
		for _, list := range [][]int{repeated(0, size), repeated(1, size), repeated(199, size), repeated(200, size),
			oneHasAll(size, 0, 200), oneHasAll(size, size-1, 200), oneHasAll(size, 1, 1)} {
			for _, c := range candyCalls() {
				results := c.call(list)
				if results[len(results)-1] != true {
					t.Errorf("%s of %v failed", c.name, list)
				}
			}
		}
	}
}

func TestNumbersOfCandySteps(t *testing.T) {
	for _, list := range [][]int{{3, 1, 0}, {4, 4, 4}, {0, 0}, repeated(200, 12)} {
		for _, steps := range append([]int{-1, -2, -1000000, 1000001, 2000000}, wildNumbers...) {
			after, ok := impl.CandiesAfter(list, steps)
			wantZero(t, fmt.Sprint("CandiesAfter of ", list, steps), []any{after, ok})
		}
	}
	wantAfter(t, []int{3, 1, 0}, 0, []int{3, 1, 0})
	wantAfter(t, []int{3, 1, 0}, 1, []int{2, 3, 1})
	wantAfter(t, []int{3, 1, 0}, 3, []int{3, 3, 4})
	wantAfter(t, []int{3, 1, 0}, 4, []int{4, 4, 4})
	wantAfter(t, []int{3, 1, 0}, 201, []int{4, 4, 4})
	wantAfter(t, []int{3, 1, 0}, 999999, []int{4, 4, 4})
	wantAfter(t, []int{3, 1, 0}, 1000000, []int{4, 4, 4})
}

func TestTurnsByChildrenThatThereAreNot(t *testing.T) {
	for _, list := range [][]int{{5, 6}, {3, 1, 0}, repeated(2, 12), {0, 1, 2, 3, 4, 5, 6, 7, 8, 9, 10, 11}} {
		wantTurned(t, list, 0, list)
		for _, by := range append([]int{-1, -2, -len(list), len(list), len(list) + 1, 2 * len(list), 12, 13}, wildNumbers...) {
			turned, ok := impl.TurnCircle(list, by)
			wantZero(t, fmt.Sprint("TurnCircle of ", list, by), []any{turned, ok})
		}
	}
}

// badSearches are numbers of children and of candies that no search has.
func badSearches() [][2]int {
	bad := [][2]int{{1, 4}, {5, 4}, {0, 4}, {-1, 4}, {12, 4}, {1, 0}, {5, 0}, {5, 8}, {2, -1}, {3, -1}, {4, -1}, {2, 9}, {3, 9}, {4, 9}, {1, -1},
		{5, 9}, {4, 200}, {0, 0}}
	for _, n := range wildNumbers {
		bad = append(bad, [2]int{n, 4}, [2]int{3, n}, [2]int{n, n})
	}
	return bad
}

func TestInvalidSearches(t *testing.T) {
	for _, b := range badSearches() {
		list, steps, ok := impl.SlowestCircle(b[0], b[1])
		wantZero(t, fmt.Sprint("SlowestCircle of ", b), []any{list, steps, ok})
		for _, rest := range []int{-1, 0, 2, 4, 1000, 1001} {
			count, ok := impl.CountByRest(b[0], b[1], rest)
			wantZero(t, fmt.Sprint("CountByRest of ", b, rest), []any{count, ok})
		}
	}
}

func TestInvalidRests(t *testing.T) {
	for _, rest := range append([]int{-1, -2, 1001, 1002, 2000}, wildNumbers...) {
		for children := 2; children <= 4; children++ {
			count, ok := impl.CountByRest(children, 2, rest)
			wantZero(t, fmt.Sprint("CountByRest of ", children, rest), []any{count, ok})
		}
	}
}

// A rest that no list has is no invalid one: there are 0 such lists.
func TestRestsThatNoListHas(t *testing.T) {
	for _, rest := range []int{1, 3, 7, 9, 10, 200, 999, 1000} {
		for children := 2; children <= 4; children++ {
			wantCount(t, children, 8, rest, 0)
			wantCount(t, children, 0, rest, 0)
		}
	}
}
