package tests

import (
	"fmt"
	"testing"

	"loop.example/g01333/impl"
)

func mustParse(t *testing.T, s string) []int {
	t.Helper()
	heaps, ok := impl.ParseHeaps(s)
	if !ok {
		t.Fatalf("ParseHeaps(%q) failed", s)
	}
	return heaps
}

func wantCall(t *testing.T, name string, heaps []int, want ...any) {
	t.Helper()
	wantSame(t, fmt.Sprint(name, " of ", heaps), heapCallNamed(name)(heaps), want...)
}

func TestHeapExample(t *testing.T) {
	heaps := mustParse(t, "5-1-0")
	wantCall(t, "HeapsText", heaps, "5-1-0", true)
	wantCall(t, "SharingMoves", heaps, []impl.Move{{From: 0, To: 1, Count: 1}, {From: 0, To: 2, Count: 2}}, true)
	played, ok := impl.PlayMoves(heaps, []impl.Move{{From: 0, To: 1, Count: 1}, {From: 0, To: 2, Count: 2}})
	wantSame(t, "PlayMoves", []any{played, ok}, []int{2, 2, 2}, true)
	wantCall(t, "StonesToMove", heaps, 3, true)
	wantCall(t, "LineFlows", heaps, []int{3, 2}, true)
	wantCall(t, "LineDistance", heaps, 5, true)
	wantCall(t, "RingFlows", heaps, []int{1, 0, -2}, true)
	wantCall(t, "RingDistance", heaps, 3, true)
	wantCall(t, "FewestMoves", mustParse(t, "3-1-3-1"), 2, true)
	level, ok := impl.LevelHeaps(7, 3)
	wantSame(t, "LevelHeaps", []any{level, ok}, []int{3, 2, 2}, true)
	wantCall(t, "HeapsText", level, "3-2-2", true)
}

func TestStonesAndShares(t *testing.T) {
	rows := []struct {
		heaps               []int
		stones, share, left int
		equal               bool
		spread              int
	}{
		{[]int{7}, 7, 7, 0, true, 0},
		{[]int{0}, 0, 0, 0, true, 0},
		{[]int{0, 0, 0}, 0, 0, 0, true, 0},
		{[]int{5, 1, 0}, 6, 2, 0, true, 5},
		{[]int{5, 1, 1}, 7, 2, 1, false, 4},
		{[]int{0, 1}, 1, 0, 1, false, 1},
		{[]int{3, 9, 4, 6}, 22, 5, 2, false, 6},
		{[]int{1000, 0, 1000}, 2000, 666, 2, false, 1000},
		{repeated(1000, 12), 12000, 1000, 0, true, 0},
	}
	for _, r := range rows {
		wantCall(t, "AreHeaps", r.heaps, true)
		wantCall(t, "StonesOf", r.heaps, r.stones, true)
		wantCall(t, "EqualShare", r.heaps, r.share, r.left, true)
		wantCall(t, "CanBeEqual", r.heaps, r.equal, true)
		wantCall(t, "SpreadOf", r.heaps, r.spread, true)
	}
}

func TestOneHeapAlone(t *testing.T) {
	for _, n := range []int{0, 1, 7, 1000} {
		heaps := []int{n}
		wantCall(t, "StonesToMove", heaps, 0, true)
		wantCall(t, "FewestMoves", heaps, 0, true)
		wantCall(t, "SharingMoves", heaps, []impl.Move{}, true)
		wantCall(t, "LineDistance", heaps, 0, true)
		wantCall(t, "LineFlows", heaps, []int{}, true)
		wantCall(t, "RingDistance", heaps, 0, true)
		wantCall(t, "RingFlows", heaps, []int{0}, true)
		wantCall(t, "MostCarried", heaps, 0, true)
		wantCall(t, "HeapsText", heaps, fmt.Sprint(n), true)
		level, ok := impl.LevelHeaps(n, 1)
		wantSame(t, "LevelHeaps", []any{level, ok}, heaps, true)
	}
}

func TestHeapsThatAreEqual(t *testing.T) {
	for _, n := range []int{0, 4, 1000} {
		for size := 2; size <= 12; size++ {
			heaps := repeated(n, size)
			wantCall(t, "StonesToMove", heaps, 0, true)
			wantCall(t, "SharingMoves", heaps, []impl.Move{}, true)
			wantCall(t, "LineDistance", heaps, 0, true)
			wantCall(t, "LineFlows", heaps, make([]int, size-1), true)
			wantCall(t, "RingDistance", heaps, 0, true)
			wantCall(t, "RingFlows", heaps, make([]int, size), true)
			wantCall(t, "MostCarried", heaps, 0, true)
			if size <= 8 {
				wantCall(t, "FewestMoves", heaps, 0, true)
			}
		}
	}
}

func TestDistancesOfManyHeaps(t *testing.T) {
	first := append([]int{1000}, repeated(0, 9)...)
	wantCall(t, "StonesToMove", first, 900, true)
	wantCall(t, "LineFlows", first, []int{900, 800, 700, 600, 500, 400, 300, 200, 100}, true)
	wantCall(t, "LineDistance", first, 4500, true)
	wantCall(t, "MostCarried", first, 900, true)
	wantCall(t, "RingFlows", first, []int{400, 300, 200, 100, 0, -100, -200, -300, -400, -500}, true)
	wantCall(t, "RingDistance", first, 2500, true)

	last := append(repeated(0, 9), 1000)
	wantCall(t, "LineFlows", last, []int{-100, -200, -300, -400, -500, -600, -700, -800, -900}, true)
	wantCall(t, "LineDistance", last, 4500, true)
	wantCall(t, "MostCarried", last, 900, true)

	mixed := []int{0, 6, 0, 2}
	wantCall(t, "StonesToMove", mixed, 4, true)
	wantCall(t, "LineFlows", mixed, []int{-2, 2, 0}, true)
	wantCall(t, "LineDistance", mixed, 4, true)
	wantCall(t, "MostCarried", mixed, 2, true)
	wantCall(t, "RingFlows", mixed, []int{-2, 2, 0, 0}, true)
	wantCall(t, "RingDistance", mixed, 4, true)
}

// Around a ring of two heaps stones may go either way: the first flow is to be the least one.
func TestRingFlowsOfSeveralBestOnes(t *testing.T) {
	wantCall(t, "RingFlows", []int{4, 0}, []int{0, -2}, true)
	wantCall(t, "RingFlows", []int{0, 4}, []int{-2, 0}, true)
	wantCall(t, "RingDistance", []int{4, 0}, 2, true)
	wantCall(t, "RingFlows", []int{2, 0, 2, 0}, []int{0, -1, 0, -1}, true)
	wantCall(t, "RingFlows", []int{0, 2, 0, 2}, []int{-1, 0, -1, 0}, true)
	wantCall(t, "RingFlows", []int{4, 1, 0, 3}, []int{1, 0, -2, -1}, true)
}

func TestFewestMovesByGroups(t *testing.T) {
	rows := []struct {
		heaps []int
		want  int
	}{
		{[]int{0, 1000}, 1},
		{[]int{900, 0, 0}, 2},
		{[]int{5, 5, 5, 5, 5}, 0},
		{[]int{1000, 0, 1000, 0, 0, 1000}, 3},
		{[]int{8, 7, 3, 2}, 2},                  // SharingMoves are 3
		{[]int{10, 3, 2, 9, 1, 5}, 3},           // +5 -2 -3, +4 -4, and 0
		{[]int{8, 0, 0, 0, 0, 0, 0, 0}, 7},      // no groups but all together
		{[]int{2, 0, 2, 0, 2, 0, 2, 0}, 4},      // four pairs
		{[]int{9, 9, 9, 9, 3, 3, 3, 3}, 4},      // four pairs, crossed
		{[]int{13, 2, 2, 2, 7, 5, 5, 4}, 5},     // +8 -3 -3 -3 +2 -1, 0 and 0
		{[]int{12, 3, 3, 10, 5, 3, 7, 5}, 5},    // +6 -3 -3, +4 -1 -3, and +1 -1
		{[]int{20, 11, 9, 10, 0, 10, 15, 5}, 3}, // +10 -10, +1 -1, +5 -5, 0 and 0
	}
	for _, r := range rows {
		wantCall(t, "FewestMoves", r.heaps, r.want, true)
	}
}

func TestSharingMovesInOrder(t *testing.T) {
	rows := []struct {
		heaps []int
		want  []impl.Move
	}{
		{[]int{8, 7, 3, 2}, []impl.Move{{From: 0, To: 2, Count: 2}, {From: 0, To: 3, Count: 1}, {From: 1, To: 3, Count: 2}}},
		{[]int{0, 0, 6}, []impl.Move{{From: 2, To: 0, Count: 2}, {From: 2, To: 1, Count: 2}}},
		{[]int{1, 5, 2, 4}, []impl.Move{{From: 1, To: 0, Count: 2}, {From: 3, To: 2, Count: 1}}},
		{[]int{0, 3, 3}, []impl.Move{{From: 1, To: 0, Count: 1}, {From: 2, To: 0, Count: 1}}},
		{[]int{0, 1000}, []impl.Move{{From: 1, To: 0, Count: 500}}},
	}
	for _, r := range rows {
		wantCall(t, "SharingMoves", r.heaps, r.want, true)
	}
}

func TestHeapsThatCannotBeEqual(t *testing.T) {
	lists := [][]int{{0, 1}, {5, 1, 1}, {1, 2}, {3, 3, 3, 2}, {1000, 999}, {1000, 0, 0, 0, 0, 0, 0, 0, 0, 0, 0, 0}}
	for _, heaps := range lists {
		wantCall(t, "CanBeEqual", heaps, false, true)
		for _, c := range equalCalls() {
			wantZero(t, fmt.Sprint(c.name, " of ", heaps), c.call(heaps))
		}
	}
}
