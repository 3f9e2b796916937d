package tests

import (
	"fmt"
	"testing"

	"loop.example/g01333/impl"
)

// ringLists are rings of all sorts, and lists that are none.
func ringLists() [][]int {
	return [][]int{{}, {7}, {4, 0}, {2, 2}, {100, 100}, {101, 101}, {0, 0, 1}, {0, 1, 1}, {0, 1, 3, 7}, {1, 1, 1, 1}, {3, 1, 2, 2}, {1, 0, 1, 0, 0}, {30, 2, 5, 100, 9, 1}, repeated(0, 10), repeated(1, 10), repeated(1000, 10),
		oneHasAll(9, 5, 40), oneHasAll(10, 9, 7), repeated(2, 11), {1001, 0}, {5, -1}}
}

func TestRingsAndResultsAreApart(t *testing.T) {
	checkApart(t, allRingCalls(), ringLists())
}

func TestInnerListsOfRingsAreApart(t *testing.T) {
	for _, ring := range [][]int{{0, 0, 0}, {0, 0, 1}, {0, 1, 1}, {1, 1, 1, 1}, {3, 1, 2, 2}, {1, 0, 1, 0, 0}, oneHasAll(10, 0, 1), {0, 1, 1, 0, 0, 0, 0, 0, 0, 0}} {
		g := guard(ring, 6)
		checkInnerApart(t, fmt.Sprint("CycleOfRing of ", ring), func() [][]int {
			cycle, _ := impl.CycleOfRing(g.list)
			return cycle
		})
		checkInnerApart(t, fmt.Sprint("RingsBefore of ", ring), func() [][]int {
			before, _ := impl.RingsBefore(g.list)
			return before
		})
		g.check(t, "CycleOfRing and RingsBefore, their results overwritten")
	}
}

// What is behind a list's length would change each of these results.
func TestSpareCapacityBehindRingsIsNotRead(t *testing.T) {
	row := []int{0, 1, 1, 7, 1001, -1}
	wantRing(t, "IsRing", row[:1], false)
	wantRing(t, "IsRing", row[:4], true)
	wantRing(t, "IsRing", row[:5], false)
	wantRing(t, "RingStep", row[:2], []int{1, 1}, true)
	wantRing(t, "RingStep", row[:3], []int{1, 0, 1}, true)
	wantWay(t, row[:3], 0, []int{0, 1, 1}, []int{1, 0, 1}, []int{1, 1, 0})
	wantToZero(t, row[:2], 2)
	wantNeverZero(t, row[:3], 1)
	wantBefore(t, row[:2])
	wantBefore(t, row[:3], []int{0, 0, 1}, []int{1, 1, 0})
	wantBefore(t, row[1:3], []int{0, 1}, []int{1, 0})
	wantRing(t, "MirrorRing", row[:4], []int{7, 1, 1, 0}, true)
	wantRingBy(t, "TurnRing", row[:4], 3, []int{7, 0, 1, 1}, true)
	wantNoRingBy(t, "TurnRing", row[:3], 3)
	wantRingBy(t, "LiftRing", row[:3], 999, []int{999, 1000, 1000}, true)
	wantRingBy(t, "ScaleRing", row[:3], 1000, []int{0, 1000, 1000}, true)
	wantRingBy(t, "RingAfter", row[:3], 1000000000, []int{1, 0, 1}, true)
}

func TestSlowestRingsAreNew(t *testing.T) {
	for range 3 {
		for most, want := range [][]int{{0, 0, 0, 0}, {0, 0, 0, 1}} {
			ring, steps, ok := impl.SlowestToZero(4, most)
			wantSame(t, "SlowestToZero", []any{ring, steps, ok}, want, 4*most, true)
			spoil([]any{ring})
		}
	}
}

func TestRingCallsAtTheSameTime(t *testing.T) {
	checkAtTheSameTime(t, allRingCalls(), []int{30, 2, 5, 100, 9}, 20)
	checkAtTheSameTime(t, []heapCall{{"searches", func(r []int) []any {
		longest, longestOK := impl.LongestPeriod(len(r))
		count, countOK := impl.CountCycling(len(r))
		slowest, steps, ok := impl.SlowestToZero(len(r), r[0])
		return []any{longest, longestOK, count, countOK, slowest, steps, ok}
	}}}, []int{3, 1, 0, 0}, 10)
}
