package tests

import (
	"fmt"
	"slices"
	"testing"

	"loop.example/g01333/impl"
)

func TestHeapConstants(t *testing.T) {
	if impl.MaxHeaps != 12 || impl.MaxStones != 1000 {
		t.Error("MaxHeaps and MaxStones are", impl.MaxHeaps, impl.MaxStones)
	}
}

func TestInvalidHeaps(t *testing.T) {
	lists := [][]int{nil, {}, repeated(0, 13), repeated(1, 13), repeated(1000, 13), repeated(1, 26),
		{1001}, {1001, 1001}, {0, 1001}, {1001, 1}, {3, -1, 1}, {-1, -1}, {-3, 3}, {5, 1, -1}, make([]int, 100000)}
	for _, n := range wildNumbers {
		lists = append(lists, []int{n}, []int{n, n}, []int{0, n}, []int{n, -n}, []int{n, 1, 2}, repeated(n, 12), append(repeated(5, 11), n))
	}
	for _, heaps := range lists {
		for _, c := range heapCalls() {
			wantZero(t, fmt.Sprintf("%s of %.60s", c.name, fmt.Sprint(heaps)), c.call(heaps))
		}
		made, ok := impl.MakeMove(heaps, impl.Move{From: 0, To: 1, Count: 1})
		wantZero(t, "MakeMove", []any{made, ok})
		played, ok := impl.PlayMoves(heaps, []impl.Move{{From: 1, To: 0, Count: 1}})
		wantZero(t, "PlayMoves", []any{played, ok})
	}
}

func TestMostHeapsAndStones(t *testing.T) {
	for _, n := range []int{0, 1, 1000} {
		for _, size := range []int{1, 2, 8, 9, 11, 12} {
			for _, c := range anyHeapsCalls() {
				results := c.call(repeated(n, size))
				if results[len(results)-1] != true {
					t.Errorf("%s of %d heaps of %d stones failed", c.name, size, n)
				}
			}
			for _, c := range equalCalls() {
				results := c.call(repeated(n, size))
				if want := c.name != "FewestMoves" || size <= 8; results[len(results)-1] != want {
					t.Errorf("%s of %d heaps of %d stones: %v", c.name, size, n, results)
				}
			}
		}
	}
	heaps := []int{1000, 0, 1000, 0, 1000, 0, 1000, 0, 1000, 0, 1000, 0}
	wantCall(t, "StonesToMove", heaps, 3000, true)
	wantCall(t, "LineFlows", heaps, []int{500, 0, 500, 0, 500, 0, 500, 0, 500, 0, 500}, true)
	wantCall(t, "LineDistance", heaps, 3000, true)
	wantCall(t, "RingDistance", heaps, 3000, true)
	wantCall(t, "RingFlows", heaps, []int{0, -500, 0, -500, 0, -500, 0, -500, 0, -500, 0, -500}, true)
}

func TestFewestMovesForAtMostEightHeaps(t *testing.T) {
	wantCall(t, "FewestMoves", []int{16, 0, 0, 0, 0, 0, 0, 0}, 7, true)
	wantZero(t, "FewestMoves of 9 heaps", heapCallNamed("FewestMoves")([]int{18, 0, 0, 0, 0, 0, 0, 0, 0}))
	wantZero(t, "FewestMoves of 9 equal heaps", heapCallNamed("FewestMoves")(repeated(2, 9)))
	wantZero(t, "FewestMoves of 12 heaps", heapCallNamed("FewestMoves")(repeated(0, 12)))
}

func TestLevelHeapsOfAllSizes(t *testing.T) {
	for size := 1; size <= 12; size++ {
		for stones := 0; stones <= 1000; stones++ {
			level, ok := impl.LevelHeaps(stones, size)
			if !ok || len(level) != size {
				t.Fatalf("LevelHeaps of %d and %d: %v, %v", stones, size, level, ok)
			}
			sum := 0
			for k, n := range level {
				sum += n
				if k > 0 && level[k-1] < n {
					t.Errorf("LevelHeaps of %d and %d has a greater one later: %v", stones, size, level)
				}
			}
			if sum != stones || level[0]-level[size-1] > 1 {
				t.Errorf("LevelHeaps of %d and %d: %v", stones, size, level)
			}
		}
	}
}

func TestLevelHeapsInvalid(t *testing.T) {
	bad := [][2]int{{7, 0}, {7, 13}, {7, -1}, {-1, 3}, {1001, 3}, {0, 0}, {1001, 12}, {12000, 12}, {-1, 13}, {1001, 13}}
	for _, n := range wildNumbers {
		bad = append(bad, [2]int{n, 3}, [2]int{7, n}, [2]int{n, n}, [2]int{0, n})
	}
	for _, b := range bad {
		level, ok := impl.LevelHeaps(b[0], b[1])
		wantZero(t, fmt.Sprint("LevelHeaps of ", b), []any{level, ok})
	}
}

func TestLevelHeapsEdges(t *testing.T) {
	rows := []struct {
		stones, heaps int
		want          []int
	}{
		{0, 1, []int{0}},
		{0, 12, repeated(0, 12)},
		{1, 12, append([]int{1}, repeated(0, 11)...)},
		{1000, 1, []int{1000}},
		{1000, 12, slices.Concat(repeated(84, 4), repeated(83, 8))},
		{6, 3, []int{2, 2, 2}},
		{2, 3, []int{1, 1, 0}},
	}
	for _, r := range rows {
		level, ok := impl.LevelHeaps(r.stones, r.heaps)
		wantSame(t, fmt.Sprint("LevelHeaps of ", r.stones, " and ", r.heaps), []any{level, ok}, r.want, true)
	}
}
