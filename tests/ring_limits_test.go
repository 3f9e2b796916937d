package tests

import (
	"fmt"
	"slices"
	"testing"

	"loop.example/g01333/impl"
)

// notRings are no rings: because of how many numbers there are, or because of a number.
func notRings() [][]int {
	lists := [][]int{nil, {}, {0}, {1}, {1000}, {1001}, {-1}, {0, -1}, {-1, 0}, {-1, -1}, {-5, -5}, {0, 1001}, {1001, 0}, {1001, 1001}, {1002, 1002}, {1000, 1001},
		{3, -1, 0}, {3, 1001, 0}, {0, 0, -1}, {1, 1, 1001}, append(repeated(0, 9), -1), append(repeated(0, 9), 1001), append([]int{-1}, repeated(1, 9)...), append([]int{1001}, repeated(1000, 9)...),
		repeated(0, 11), repeated(1, 11), repeated(1000, 11), repeated(-1, 10), repeated(1001, 10), repeated(0, 12), repeated(3, 20), make([]int, 100000), repeated(1, 100000)}
	for _, n := range wildNumbers {
		lists = append(lists, []int{n}, []int{n, 1}, []int{1, n}, []int{n, n}, []int{n, -n}, []int{1, n, 1}, repeated(n, 10), append(repeated(1, 9), n), repeated(n, 11))
	}
	return lists
}

func TestInvalidRings(t *testing.T) {
	calls := append(allRingCalls(), ringByCalls(wildNumbers...)...)
	for _, ring := range notRings() {
		what := fmt.Sprintf(" of %.60s", fmt.Sprint(ring))
		for _, c := range append(calls, ringByCalls(len(ring)-1, len(ring))...) {
			wantZero(t, c.name+what, c.call(ring))
		}
	}
}

// edgeRings are rings by the least: two and ten numbers, the least and greatest ones.
func edgeRings() [][]int {
	var rings [][]int
	for _, size := range []int{2, 3, 9, 10} {
		for _, n := range []int{0, 1, 999, 1000} {
			rings = append(rings, repeated(n, size))
		}
		rings = append(rings, oneHasAll(size, 0, 1), oneHasAll(size, size-1, 1), oneHasAll(size, 0, 1000), oneHasAll(size, size-1, 1000))
	}
	return rings
}

func TestRingsByTheLeast(t *testing.T) {
	for _, ring := range edgeRings() {
		for _, c := range append(ringCalls(), ringByCalls(0)...) {
			if results := c.call(ring); results[len(results)-1] != true {
				t.Errorf("%s of %v failed: %v", c.name, ring, results)
			}
		}
		checkRingWay(t, ring)
		checkTurnsAndMirror(t, ring)
	}
	for n := -5; n < 1100; n++ {
		for _, ring := range [][]int{{n, 0}, {0, n}, {1, 2, 3, 4, 5, 6, 7, 8, 9, n}} {
			wantRing(t, "IsRing", ring, n >= 0 && n <= 1000)
			_, ok := impl.RingStep(ring)
			wantSame(t, fmt.Sprint("RingStep of ", ring), []any{ok}, n >= 0 && n <= 1000)
		}
	}
	for size := range 15 {
		wantRing(t, "IsRing", repeated(1, size), size >= 2 && size <= 10)
	}
}

func TestNumbersOfRingSteps(t *testing.T) {
	for _, ring := range append(edgeRings(), []int{0, 1, 3, 7}, []int{0, 0, 1}, []int{3, 3, 1000, 2, 0, 2, 0, 1, 1}) {
		for _, steps := range append([]int{-1, -2, -1000000000, 1000000001, 1000000002, 2000000000}, wildNumbers...) {
			wantNoRingBy(t, "RingAfter", ring, steps)
		}
		wantRingBy(t, "RingAfter", ring, 0, ring, true)
		wantRingBy(t, "RingAfter", ring, 1, ringStepped(ring), true)
	}
	// 1000000000 is 1 more than a multiple of 3, and so is the lead of this ring.
	wantRingBy(t, "RingAfter", []int{0, 0, 1}, 1000000000, []int{0, 1, 1}, true)
	wantRingBy(t, "RingAfter", []int{0, 0, 1}, 999999999, []int{1, 1, 0}, true)
	wantRingBy(t, "RingAfter", []int{0, 0, 1}, 1, []int{0, 1, 1}, true)
	wantRingBy(t, "RingAfter", []int{0, 0, 1}, 3, []int{1, 1, 0}, true)
	wantRingBy(t, "RingAfter", []int{0, 0, 1}, 4, []int{0, 1, 1}, true)
	wantRingBy(t, "RingAfter", []int{0, 1, 3, 7}, 6, []int{2, 2, 2, 2}, true)
	wantRingBy(t, "RingAfter", []int{0, 1, 3, 7}, 7, []int{0, 0, 0, 0}, true)
	wantRingBy(t, "RingAfter", []int{0, 1, 3, 7}, 1000000000, []int{0, 0, 0, 0}, true)
}

func TestRingsTooGreatToHaveRingsBefore(t *testing.T) {
	for _, ring := range [][]int{{101, 101}, {101, 0}, {0, 101}, {100, 101}, {1000, 1000}, {102, 102, 0}, {0, 0, 101}, {100, 100, 100, 101}, repeated(101, 10), append(repeated(100, 9), 101), append([]int{101}, repeated(0, 9)...)} {
		wantRing(t, "IsRing", ring, true)
		for _, c := range beforeCalls() {
			wantZero(t, fmt.Sprint(c.name, " of ", ring), c.call(ring))
		}
	}
	for n := range 120 {
		_, ok := impl.RingsBefore([]int{n, n})
		count, countOK := impl.CountRingsBefore([]int{n, n})
		has, hasOK := impl.HasRingBefore([]int{n, n})
		want := []any{true, 2, true, true, true}
		if n == 0 {
			want[1] = 1
		}
		if n > 100 {
			want = []any{false, 0, false, false, false}
		}
		wantSame(t, fmt.Sprint("rings before ", n, n), []any{ok, count, countOK, has, hasOK}, want...)
	}
}

func TestRingsLiftedAndScaledTooFar(t *testing.T) {
	for _, ring := range append(edgeRings(), []int{0, 1, 3, 7}, []int{500, 0}, []int{501, 1}) {
		for _, by := range append([]int{-1, -2, -1000, 1001, 1002, 2000}, wildNumbers...) {
			wantNoRingBy(t, "LiftRing", ring, by)
			wantNoRingBy(t, "ScaleRing", ring, by)
		}
		greatest := slices.Max(ring)
		if _, ok := impl.LiftRing(ring, 1000-greatest); !ok {
			t.Errorf("LiftRing of %v by %d failed", ring, 1000-greatest)
		}
		wantNoRingBy(t, "LiftRing", ring, 1001-greatest)
		if greatest > 0 {
			if _, ok := impl.ScaleRing(ring, 1000/greatest); !ok {
				t.Errorf("ScaleRing of %v by %d failed", ring, 1000/greatest)
			}
			wantNoRingBy(t, "ScaleRing", ring, 1000/greatest+1)
		}
	}
	wantNoRingBy(t, "LiftRing", []int{1000, 0}, 1)
	wantNoRingBy(t, "LiftRing", []int{0, 1, 3, 7}, 994)
	wantNoRingBy(t, "LiftRing", []int{0, 0, 1}, 1000)
	wantNoRingBy(t, "ScaleRing", []int{0, 1, 3, 7}, 143)
	wantNoRingBy(t, "ScaleRing", []int{0, 501, 0}, 2)
	wantNoRingBy(t, "ScaleRing", []int{2, 1}, 1000)
	wantNoRingBy(t, "ScaleRing", repeated(0, 10), -1)
	wantNoRingBy(t, "ScaleRing", repeated(0, 10), 1001)
}

func TestTurnsByNumbersThatThereAreNot(t *testing.T) {
	for _, ring := range append(edgeRings(), []int{0, 1, 3, 7}, []int{5, 6}) {
		size := len(ring)
		wantRingBy(t, "TurnRing", ring, 0, ring, true)
		wantRingBy(t, "TurnRing", ring, size-1, append([]int{ring[size-1]}, ring[:size-1]...), true)
		for _, by := range append([]int{-1, -2, -size, size, size + 1, 2 * size, 10, 11, 1000}, wildNumbers...) {
			wantNoRingBy(t, "TurnRing", ring, by)
		}
	}
}

func TestInvalidSizesOfRings(t *testing.T) {
	for _, size := range append([]int{1, 0, -1, -2, -10, 11, 12, 16, 20, 64, 100, 1000}, wildNumbers...) {
		longest, ok := impl.LongestPeriod(size)
		wantZero(t, fmt.Sprint("LongestPeriod of ", size), []any{longest, ok})
		count, ok := impl.CountCycling(size)
		wantZero(t, fmt.Sprint("CountCycling of ", size), []any{count, ok})
	}
}

func TestInvalidSearchesForSlowestRings(t *testing.T) {
	wantNone := func(size int, most int) {
		t.Helper()
		ring, steps, ok := impl.SlowestToZero(size, most)
		wantZero(t, fmt.Sprint("SlowestToZero of ", size, most), []any{ring, steps, ok})
	}
	for _, size := range append([]int{1, 3, 5, 8, 0, -2, -4, 6, 7, 9, 10, 11, 16}, wildNumbers...) {
		for _, most := range append([]int{-1, 0, 1, 6, 7}, wildNumbers...) {
			wantNone(size, most)
		}
	}
	for _, most := range append([]int{-1, -2, -6, 7, 8, 100, 1000}, wildNumbers...) {
		wantNone(2, most)
		wantNone(4, most)
	}
}
