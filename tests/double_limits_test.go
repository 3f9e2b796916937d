package tests

import (
	"fmt"
	"testing"

	"loop.example/g01333/impl"
)

func TestDoublingConstants(t *testing.T) {
	if impl.MaxDoubled != 4 || impl.MaxDoubledStones != 40 || impl.MaxPairStones != 100000 {
		t.Error("the constants are", impl.MaxDoubled, impl.MaxDoubledStones, impl.MaxPairStones)
	}
}

func notFewHeaps() [][]int {
	lists := [][]int{nil, {}, {0}, {5}, {40}, {0, 0}, {0, 0, 0}, {0, 0, 0, 0}, {1, 1, 1, 1, 1}, {0, 0, 0, 0, 1}, {0, 0, 0, 0, 0},
		{41, 0}, {0, 41}, {20, 21}, {14, 14, 13}, {10, 10, 10, 11}, {0, 0, 0, 41}, {40, 1}, {1001, 1}, {-1, 5}, {5, -1}, {41, -1}, {-1, 41},
		{-1, 1}, {-3, -5}, {5, 3, -1}, {5, 3, -1, -1}, {2, 5, 9, -1}, repeated(1, 12), repeated(1, 13), make([]int, 100000)}
	for _, n := range wildNumbers {
		lists = append(lists, []int{n, 1}, []int{1, n}, []int{n, n}, []int{n, -n}, []int{5, n, 3}, []int{n, n, n, n}, []int{n, 8 - n})
	}
	return lists
}

func TestInvalidFewHeaps(t *testing.T) {
	for _, heaps := range notFewHeaps() {
		what := fmt.Sprintf(" of %.60s", fmt.Sprint(heaps))
		for _, c := range doubleCalls() {
			wantZero(t, c.name+what, c.call(heaps))
		}
		for _, d := range []impl.Doubling{doubling(0, 1), doubling(1, 0), doubling(2, 0), doubling(0, 0), doubling(-1, 9)} {
			can, ok := impl.CanDouble(heaps, d)
			wantZero(t, "CanDouble"+what, []any{can, ok})
			behind, ok := impl.DoubleHeap(heaps, d)
			wantZero(t, "DoubleHeap"+what, []any{behind, ok})
			behind, ok = impl.PlayDoublings(heaps, []impl.Doubling{d})
			wantZero(t, "PlayDoublings"+what, []any{behind, ok})
		}
		for _, goal := range [][]int{nil, {0, 8}, {5, 3}, {8, 8, 0}} {
			steps, ok := impl.FewestToBecome(heaps, goal)
			wantZero(t, "FewestToBecome"+what, []any{steps, ok})
		}
	}
}

func TestMostAndLeastFewHeaps(t *testing.T) {
	lists := [][]int{{1, 0}, {0, 1}, {40, 0}, {0, 40}, {20, 20}, {39, 1}, {0, 0, 1}, {40, 0, 0}, {13, 13, 14}, {0, 0, 0, 1},
		{0, 0, 0, 40}, {10, 10, 10, 10}, {37, 1, 1, 1}, {9, 10, 10, 11}}
	for _, heaps := range lists {
		for _, c := range fewCalls() {
			results := c.call(heaps)
			if results[len(results)-1] != true {
				t.Errorf("%s of %v failed", c.name, heaps)
			}
		}
	}
}

func TestDoublingsThatCannotBeMade(t *testing.T) {
	bad := []impl.Doubling{{}, doubling(1, 1), doubling(2, 2), doubling(0, 1), doubling(1, 2), doubling(3, 0), doubling(3, 2), doubling(0, 4),
		doubling(4, 0), doubling(0, 5), doubling(5, 0), doubling(-1, 0), doubling(0, -1), doubling(-1, -2), doubling(4, 5), doubling(0, 3), doubling(2, 3)}
	for _, n := range wildNumbers {
		bad = append(bad, doubling(n, 0), doubling(0, n), doubling(n, n), doubling(2, n), doubling(n, -n))
	}
	heaps := []int{2, 3, 7, 0}
	for _, d := range bad {
		can, ok := impl.CanDouble(heaps, d)
		wantSame(t, fmt.Sprint("CanDouble ", d), []any{can, ok}, false, true)
		behind, ok := impl.DoubleHeap(heaps, d)
		wantZero(t, fmt.Sprint("DoubleHeap ", d), []any{behind, ok})
		for _, list := range [][]impl.Doubling{{d}, {d, doubling(2, 0)}} {
			played, ok := impl.PlayDoublings(heaps, list)
			wantZero(t, fmt.Sprint("PlayDoublings ", list), []any{played, ok})
		}
	}
}

// A heap that there is not is no empty one: nothing is doubled from it or by it.
func TestDoublingsOfHeapsThatThereAreNot(t *testing.T) {
	for _, d := range []impl.Doubling{doubling(0, 2), doubling(2, 0), doubling(2, 3), doubling(3, 1), doubling(1, 3)} {
		can, ok := impl.CanDouble([]int{4, 4}, d)
		wantSame(t, fmt.Sprint("CanDouble ", d), []any{can, ok}, false, true)
		behind, ok := impl.DoubleHeap([]int{4, 4}, d)
		wantZero(t, fmt.Sprint("DoubleHeap ", d), []any{behind, ok})
	}
	can, ok := impl.CanDouble([]int{4, 4, 4}, doubling(0, 3))
	wantSame(t, "CanDouble a fourth heap of three", []any{can, ok}, false, true)
}

func TestAtMostHundredDoublings(t *testing.T) {
	for _, size := range []int{0, 1, 99, 100, 101, 102, 1000} {
		list := toAndFro(size)
		played, ok := impl.PlayDoublings([]int{1, 2}, list)
		text, textOK := impl.DoublingsText(list)
		if size > 100 {
			wantZero(t, fmt.Sprint("PlayDoublings of ", size), []any{played, ok})
			wantZero(t, fmt.Sprint("DoublingsText of ", size), []any{text, textOK})
			continue
		}
		wantSame(t, fmt.Sprint("PlayDoublings of ", size), []any{played, ok}, []int{1 + size%2, 2 - size%2}, true)
		if !textOK || len(text) != max(3*size-1, 0) {
			t.Errorf("DoublingsText of %d: %q, %v", size, text, textOK)
		}
	}
}

func TestInvalidPairs(t *testing.T) {
	bad := [][2]int{{0, 0}, {-1, 0}, {0, -1}, {-1, -1}, {-1, 2}, {2, -1}, {-5, 5}, {100001, -1}, {-1, 100001}, {100001, 0}, {0, 100001},
		{50000, 50001}, {100000, 1}, {1, 100000}, {100000, 100000}}
	for _, n := range wildNumbers {
		bad = append(bad, [2]int{n, 1}, [2]int{1, n}, [2]int{n, n}, [2]int{n, -n}, [2]int{0, n}, [2]int{n, 0}, [2]int{n, 8 - n})
	}
	for _, b := range bad {
		for _, c := range pairCalls() {
			wantZero(t, fmt.Sprint(c.name, " of ", b), c.call(b[0], b[1]))
		}
		for _, steps := range []int{-1, 1, 1000000, 1000001} {
			x, y, ok := impl.PairAfter(b[0], b[1], steps)
			wantZero(t, fmt.Sprint("PairAfter of ", b, steps), []any{x, y, ok})
		}
	}
}

func TestInvalidNumbersOfSteps(t *testing.T) {
	for _, steps := range append([]int{-1, -1000000, 1000001, 2000000}, wildNumbers...) {
		for _, p := range [][2]int{{5, 3}, {1, 2}, {0, 8}, {8, 0}, {50000, 50000}} {
			x, y, ok := impl.PairAfter(p[0], p[1], steps)
			wantZero(t, fmt.Sprint("PairAfter of ", p, steps), []any{x, y, ok})
		}
	}
}
