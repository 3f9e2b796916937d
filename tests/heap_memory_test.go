package tests

import (
	"fmt"
	"testing"

	"loop.example/g01333/impl"
)

// heapLists are heaps of all sorts, and lists that are none.
func heapLists() [][]int {
	return [][]int{{}, {0}, {7}, {5, 1, 0}, {5, 1, 1}, {3, 1, 3, 1}, {2, 2}, {1000, 0}, {8, 7, 3, 2}, {0, 0, 0, 4},
		{1001}, {3, -1, 1}, repeated(4, 12), repeated(1, 13), {1000, 0, 0, 0, 0, 0, 0, 0, 0, 0}}
}

func TestHeapArgumentsAndResultsAreApart(t *testing.T) {
	checkApart(t, heapCalls(), heapLists())
}

func TestMoveArgumentsAndResultsAreApart(t *testing.T) {
	lists := [][]impl.Move{{}, {move(0, 1, 1)}, {move(0, 1, 1), move(0, 2, 2)}, {move(0, 1, 9)}, {move(0, 0, 1)}, backAndForth(100), backAndForth(101)}
	checkPlaysApart(t, impl.PlayMoves, heapLists(), lists, move(1, 0, 1))
	for _, list := range lists {
		m := guard(list, move(0, 1, 1))
		impl.CostOfMoves(m.list)
		m.check(t, "CostOfMoves")
	}
}

func TestMakeMoveLeavesHeaps(t *testing.T) {
	for _, m := range append(badMoves(), move(0, 1, 1), move(1, 2, 1), move(0, 2, 5)) {
		h := guard([]int{5, 1, 0}, 3)
		made, _ := impl.MakeMove(h.list, m)
		h.check(t, fmt.Sprint("MakeMove ", m))
		spoil([]any{made})
		h.check(t, fmt.Sprint("MakeMove, its result overwritten ", m))
	}
}

func TestResultsWithoutListsInArgumentsAreNew(t *testing.T) {
	for range 3 {
		level, ok := impl.LevelHeaps(7, 3)
		wantSame(t, "LevelHeaps", []any{level, ok}, []int{3, 2, 2}, true)
		heaps, ok := impl.ParseHeaps("5-1-0")
		wantSame(t, "ParseHeaps", []any{heaps, ok}, []int{5, 1, 0}, true)
		spoil([]any{level, heaps})
	}
}

// What is behind a list's length would change each of these results.
func TestSpareCapacityIsNotRead(t *testing.T) {
	row := []int{5, 1, 0, 1001, -1}
	wantCall(t, "AreHeaps", row[:3], true)
	wantCall(t, "StonesOf", row[:2], 6, true)
	wantCall(t, "AreHeaps", row[:0], false)
	wantCall(t, "AreHeaps", row, false)
	moves := []impl.Move{move(0, 1, 1), move(0, 0, 0)}
	cost, ok := impl.CostOfMoves(moves[:1])
	wantSame(t, "CostOfMoves", []any{cost, ok}, 1, true)
}

func TestCallsAtTheSameTime(t *testing.T) {
	checkAtTheSameTime(t, heapCalls(), []int{8, 7, 3, 2}, 50)
}
