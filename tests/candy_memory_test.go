package tests

import (
	"fmt"
	"runtime"
	"testing"

	"loop.example/g01333/impl"
)

// candyLists are candies of all sorts, and lists that are none.
func candyLists() [][]int {
	return [][]int{{}, {7}, {4, 0}, {2, 2}, {3, 3}, {3, 1, 0}, {94, 200}, {2, 4, 6, 8}, {1, 3, 5, 7}, repeated(0, 12), repeated(199, 12),
		oneHasAll(12, 5, 200), repeated(2, 13), {201, 0}, {5, -1}}
}

func TestCandiesAndResultsAreApart(t *testing.T) {
	checkApart(t, append(candyCalls(), numberedCalls()...), candyLists())
}

func TestInnerListsOfTracesAreApart(t *testing.T) {
	for _, list := range [][]int{{4, 4}, {4, 0}, {3, 1, 0}, {1, 1, 1}, {2, 4, 6, 8}} {
		g := guard(list, 6)
		checkInnerApart(t, fmt.Sprint("CandyTrace of ", list), func() [][]int {
			trace, _ := impl.CandyTrace(g.list)
			return trace
		})
		g.check(t, "CandyTrace, its result overwritten")
	}
}

// What is behind a list's length would change each of these results.
func TestSpareCapacityBehindCandiesIsNotRead(t *testing.T) {
	row := []int{4, 4, 1, 201, -1}
	wantCandy(t, "AreCandies", row[:1], false)
	wantCandy(t, "AreCandies", row[:3], true)
	wantCandy(t, "AreCandies", row[:4], false)
	wantCandy(t, "IsResting", row[:2], true, true)
	wantCandy(t, "StepsToRest", row[:2], 0, true)
	wantCandy(t, "FirstLevel", row[:2], 0, true)
	wantCandy(t, "SpreadTrace", row[:2], []int{0}, true)
	wantCandy(t, "GivenTo", row[:2], []int{0, 0}, true)
	wantTurned(t, row[:3], 2, []int{1, 4, 4})
	wantCandy(t, "MirrorCircle", row[:3], []int{1, 4, 4}, true)
	wantAfter(t, row[:2], 1000000, []int{4, 4})
}

func TestSlowestCirclesAreNew(t *testing.T) {
	for range 3 {
		for most, want := range [][]int{{0, 0, 0}, {0, 0, 1}} {
			list, steps, ok := impl.SlowestCircle(3, most)
			wantSame(t, "SlowestCircle", []any{list, steps, ok}, want, 3*most, true)
			spoil([]any{list})
		}
	}
}

func TestCandyCallsAtTheSameTime(t *testing.T) {
	checkAtTheSameTime(t, append(candyCalls(), numberedCalls()...), []int{3, 1, 0, 200, 7}, 20)
	checkAtTheSameTime(t, []heapCall{{"SlowestCircle", func(l []int) []any {
		slowest, steps, ok := impl.SlowestCircle(len(l), l[0])
		return []any{slowest, steps, ok}
	}}}, []int{3, 1, 0}, 20)
}

// Goroutines that a call starts have ended their work behind it, and go soon.
func TestCandyCallsLeaveNoGoroutines(t *testing.T) {
	before := runtime.NumGoroutine()
	for range 50 {
		for _, c := range append(candyCalls(), numberedCalls()...) {
			c.call(oneHasAll(12, 3, 60))
			c.call(repeated(4, 12))
		}
		impl.SlowestCircle(3, 1)
		impl.CountByRest(4, 1, 2)
	}
	for range 100000 {
		if runtime.NumGoroutine() <= before {
			return
		}
		runtime.Gosched()
	}
	t.Errorf("%d goroutines are left, there were %d", runtime.NumGoroutine(), before)
}
