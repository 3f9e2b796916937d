package tests

import (
	"testing"

	"loop.example/g01333/impl"
)

// wantSteps tells how rings follow each other by steps.
func wantSteps(t *testing.T, rings ...[]int) {
	t.Helper()
	for k, ring := range rings {
		if k > 0 {
			wantRing(t, "RingStep", rings[k-1], ring, true)
		}
		wantRingBy(t, "RingAfter", rings[0], k, ring, true)
	}
}

func TestRingExample(t *testing.T) {
	wantSteps(t, []int{0, 1, 3, 7}, []int{1, 2, 4, 7}, []int{1, 2, 3, 6}, []int{1, 1, 3, 5}, []int{0, 2, 2, 4}, []int{2, 0, 2, 4}, []int{2, 2, 2, 2}, []int{0, 0, 0, 0})
	wantToZero(t, []int{0, 1, 3, 7}, 7)
	wantSteps(t, []int{0, 0, 1}, []int{0, 1, 1}, []int{1, 0, 1}, []int{1, 1, 0}, []int{0, 1, 1})
	wantWay(t, []int{0, 0, 1}, 1, []int{0, 1, 1}, []int{1, 0, 1}, []int{1, 1, 0})
	wantBefore(t, []int{1, 1}, []int{0, 1}, []int{1, 0})
	longest, ok := impl.LongestPeriod(5)
	wantSame(t, "LongestPeriod of 5", []any{longest, ok}, 15, true)
}

func TestRingConstants(t *testing.T) {
	if impl.MaxRinged != 10 || impl.MaxNumber != 1000 {
		t.Error("the constants are", impl.MaxRinged, impl.MaxNumber)
	}
}

func TestStepsOfRings(t *testing.T) {
	wantSteps(t, []int{3, 8}, []int{5, 5}, []int{0, 0}, []int{0, 0})
	wantSteps(t, []int{1000, 0}, []int{1000, 1000}, []int{0, 0})
	wantSteps(t, []int{0, 1000, 0}, []int{1000, 1000, 0}, []int{0, 1000, 1000}, []int{1000, 0, 1000}, []int{1000, 1000, 0})
	wantSteps(t, []int{5, 5, 5, 5, 5}, []int{0, 0, 0, 0, 0})
	wantSteps(t, []int{0, 1, 2, 3, 4, 5, 6, 7, 8, 9}, []int{1, 1, 1, 1, 1, 1, 1, 1, 1, 9}, []int{0, 0, 0, 0, 0, 0, 0, 0, 8, 8}, []int{0, 0, 0, 0, 0, 0, 0, 8, 0, 8})
	wantSteps(t, []int{9, 4, 7, 7, 1, 30}, []int{5, 3, 0, 6, 29, 21}, []int{2, 3, 6, 23, 8, 16}, []int{1, 3, 17, 15, 8, 14})
}

func TestRingsThatComeToZero(t *testing.T) {
	// Rings of zeros and of equal numbers, of whichever size.
	for size := 2; size <= 10; size++ {
		wantToZero(t, repeated(0, size), 0)
		wantToZero(t, repeated(1, size), 1)
		wantToZero(t, repeated(7, size), 1)
		wantToZero(t, repeated(1000, size), 1)
	}
	wantToZero(t, []int{0, 1}, 2)
	wantToZero(t, []int{999, 1000}, 2)
	wantToZero(t, []int{0, 0, 0, 1}, 4)
	wantToZero(t, []int{0, 1, 0, 1}, 2)
	wantToZero(t, []int{0, 1, 1, 0}, 3)
	wantToZero(t, []int{106, 7, 619, 287}, 14)
	wantToZero(t, []int{1, 0, 0, 0, 0, 0, 0, 0}, 8)
	wantToZero(t, []int{0, 574, 1, 587, 2, 925, 502, 4}, 42)
	// Other sizes can come to zero as well.
	wantToZero(t, []int{0, 4, 0, 4, 0, 4}, 2)
	wantToZero(t, []int{3, 0, 3, 0, 3, 0, 3, 0, 3, 0}, 2)
	wantToZero(t, []int{0, 4, 8, 4, 0, 4}, 2)
}

func TestRingsThatComeAgainThemselves(t *testing.T) {
	wantWay(t, []int{0, 1, 1}, 0, []int{0, 1, 1}, []int{1, 0, 1}, []int{1, 1, 0})
	wantWay(t, []int{1, 1, 0, 1, 1, 0}, 0, []int{1, 1, 0, 1, 1, 0}, []int{0, 1, 1, 0, 1, 1}, []int{1, 0, 1, 1, 0, 1})
	wantWay(t, []int{1000, 1000, 0}, 0, []int{1000, 1000, 0}, []int{0, 1000, 1000}, []int{1000, 0, 1000})
	for _, ring := range [][]int{{0, 1, 1}, {1, 1, 0, 1, 1, 0}, {0, 1, 1, 0, 1, 1, 0, 1, 1}} {
		wantNeverZero(t, ring, 1)
	}
	wantNeverZero(t, []int{1000, 1000, 0}, 1000)
	wantRing(t, "LeadOfRing", []int{1000, 0, 1000, 0, 0}, 0, true)
	wantRing(t, "PeriodOfRing", []int{1000, 0, 1000, 0, 0}, 15, true)
	wantNeverZero(t, []int{1000, 0, 1000, 0, 0}, 1000)
	wantRing(t, "LeadOfRing", []int{1, 1, 0, 0, 0, 1, 1, 0, 0, 0}, 0, true)
	wantRing(t, "PeriodOfRing", []int{1, 1, 0, 0, 0, 1, 1, 0, 0, 0}, 15, true)
}

// One number that is not 0: such rings do not come again themselves.
func TestRingsWithOneNumberThatIsNotZero(t *testing.T) {
	for size, want := range map[int][2]int{3: {1, 3}, 5: {1, 15}, 6: {2, 6}, 7: {1, 7}, 9: {1, 63}, 10: {2, 30}} {
		for _, n := range []int{1, 5, 1000} {
			for k := range size {
				ring := oneHasAll(size, k, n)
				wantRing(t, "LeadOfRing", ring, want[0], true)
				wantRing(t, "PeriodOfRing", ring, want[1], true)
				wantNeverZero(t, ring, n)
			}
		}
	}
}

// The greatest number becomes less by and by, and so these rings come again late.
func TestRingsWithALongLead(t *testing.T) {
	for _, r := range []struct {
		ring         []int
		lead, period int
	}{
		{[]int{1000, 1, 0}, 1000, 3},
		{[]int{0, 0, 1000, 1, 1}, 2997, 15},
		{[]int{1000, 1, 3, 4, 2, 0}, 1996, 6},
		{[]int{0, 991, 1, 1, 2, 0, 2}, 3461, 7},
		{[]int{3, 3, 1000, 2, 0, 2, 0, 1, 1}, 6963, 63},
		{[]int{990, 0, 2, 0, 2, 0, 1, 2, 1, 0}, 5928, 30},
	} {
		wantRing(t, "LeadOfRing", r.ring, r.lead, true)
		wantRing(t, "PeriodOfRing", r.ring, r.period, true)
		wantNeverZero(t, r.ring, 1)
		checkRingWay(t, r.ring)
	}
}

func TestRingsBeforeRings(t *testing.T) {
	// Before zero there are rings of equal numbers, and of these one has a 0.
	for size := 2; size <= 10; size++ {
		wantBefore(t, repeated(0, size), repeated(0, size))
	}
	wantBefore(t, []int{100, 100}, []int{0, 100}, []int{100, 0})
	wantBefore(t, []int{0, 0, 1})
	wantBefore(t, []int{0, 1})
	wantBefore(t, []int{100, 99})
	wantBefore(t, []int{1, 1, 1})
	wantBefore(t, []int{1, 2, 4, 8})
	wantBefore(t, []int{0, 0, 0, 0, 0, 0, 0, 0, 0, 100})
	wantBefore(t, []int{100, 9, 9, 9, 9, 9, 9, 9, 9, 9})
	wantBefore(t, []int{2, 1, 1}, []int{0, 2, 1}, []int{2, 0, 1})
	wantBefore(t, []int{0, 1, 1}, []int{0, 0, 1}, []int{1, 1, 0})
	wantBefore(t, []int{3, 1, 2, 2}, []int{0, 3, 4, 2}, []int{4, 1, 0, 2})
	wantBefore(t, []int{1, 1, 1, 1}, []int{0, 1, 0, 1}, []int{0, 1, 2, 1}, []int{1, 0, 1, 0}, []int{1, 0, 1, 2}, []int{1, 2, 1, 0}, []int{2, 1, 0, 1})
	wantBefore(t, []int{100, 0, 0, 0, 0, 100, 0, 0, 0, 0}, []int{0, 100, 100, 100, 100, 100, 0, 0, 0, 0}, []int{100, 0, 0, 0, 0, 0, 100, 100, 100, 100})
	wantBefore(t, []int{100, 10, 10, 10, 10, 10, 10, 10, 10, 20}, []int{0, 100, 90, 80, 70, 60, 50, 40, 30, 20}, []int{100, 0, 10, 20, 30, 40, 50, 60, 70, 80})
}

func TestLiftedRings(t *testing.T) {
	wantRingBy(t, "LiftRing", []int{0, 1, 3, 7}, 5, []int{5, 6, 8, 12}, true)
	wantRing(t, "RingStep", []int{5, 6, 8, 12}, []int{1, 2, 4, 7}, true)
	wantRingBy(t, "LiftRing", []int{0, 1, 3, 7}, 0, []int{0, 1, 3, 7}, true)
	wantRingBy(t, "LiftRing", []int{0, 1, 3, 7}, 1, []int{1, 2, 4, 8}, true)
	wantRingBy(t, "LiftRing", []int{0, 1, 3, 7}, 993, []int{993, 994, 996, 1000}, true)
	wantRingBy(t, "LiftRing", []int{0, 0}, 1000, []int{1000, 1000}, true)
	wantRingBy(t, "LiftRing", []int{1000, 0, 3}, 0, []int{1000, 0, 3}, true)
}

func TestScaledRings(t *testing.T) {
	wantRingBy(t, "ScaleRing", []int{0, 1, 3, 7}, 5, []int{0, 5, 15, 35}, true)
	wantRing(t, "RingStep", []int{0, 5, 15, 35}, []int{5, 10, 20, 35}, true)
	wantRingBy(t, "ScaleRing", []int{0, 1, 3, 7}, 0, []int{0, 0, 0, 0}, true)
	wantRingBy(t, "ScaleRing", []int{0, 1, 3, 7}, 1, []int{0, 1, 3, 7}, true)
	wantRingBy(t, "ScaleRing", []int{0, 1, 3, 7}, 142, []int{0, 142, 426, 994}, true)
	wantRingBy(t, "ScaleRing", []int{0, 1, 0}, 1000, []int{0, 1000, 0}, true)
	wantRingBy(t, "ScaleRing", []int{1000, 999}, 1, []int{1000, 999}, true)
	wantRingBy(t, "ScaleRing", []int{1000, 999}, 0, []int{0, 0}, true)
	for _, by := range []int{0, 1, 2, 999, 1000} {
		wantRingBy(t, "ScaleRing", repeated(0, 10), by, repeated(0, 10), true)
	}
}

func TestMirroredAndTurnedRings(t *testing.T) {
	ten := []int{0, 1, 2, 3, 4, 5, 6, 7, 8, 9}
	wantRing(t, "MirrorRing", []int{0, 1, 3, 7}, []int{7, 3, 1, 0}, true)
	wantRing(t, "MirrorRing", []int{5, 6}, []int{6, 5}, true)
	wantRing(t, "MirrorRing", ten, []int{9, 8, 7, 6, 5, 4, 3, 2, 1, 0}, true)
	for by, want := range [][]int{{0, 1, 3, 7}, {1, 3, 7, 0}, {3, 7, 0, 1}, {7, 0, 1, 3}} {
		wantRingBy(t, "TurnRing", []int{0, 1, 3, 7}, by, want, true)
	}
	wantRingBy(t, "TurnRing", []int{5, 6}, 1, []int{6, 5}, true)
	wantRingBy(t, "TurnRing", ten, 9, []int{9, 0, 1, 2, 3, 4, 5, 6, 7, 8}, true)
	wantRingBy(t, "TurnRing", ten, 4, []int{4, 5, 6, 7, 8, 9, 0, 1, 2, 3}, true)
}

func TestPeriodsOfZerosAndOnes(t *testing.T) {
	wantLongest(t, 2, 1, 1)
	wantLongest(t, 3, 3, 4)
	wantLongest(t, 4, 1, 1)
	wantLongest(t, 5, 15, 16)
	wantLongest(t, 6, 6, 16)
	wantLongest(t, 7, 7, 64)
	wantLongest(t, 8, 1, 1)
	wantLongest(t, 9, 63, 256)
	wantLongest(t, 10, 30, 256)
}

func TestSlowestRingsToZero(t *testing.T) {
	wantSlowestRing(t, 2, 0, []int{0, 0}, 0)
	wantSlowestRing(t, 2, 1, []int{0, 1}, 2)
	wantSlowestRing(t, 2, 6, []int{0, 1}, 2)
	wantSlowestRing(t, 4, 0, []int{0, 0, 0, 0}, 0)
	wantSlowestRing(t, 4, 1, []int{0, 0, 0, 1}, 4)
	wantSlowestRing(t, 4, 2, []int{0, 0, 0, 1}, 4)
	wantSlowestRing(t, 4, 3, []int{0, 0, 1, 3}, 6)
	wantSlowestRing(t, 4, 4, []int{0, 1, 2, 4}, 7)
	wantSlowestRing(t, 4, 6, []int{0, 1, 2, 4}, 7)
}
