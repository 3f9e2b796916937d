package tests

import (
	"slices"
	"testing"

	"loop.example/g01333/impl"
)

// The searches of this file know only what a step is; all else is seen along the way.

func ringStepped(ring []int) []int {
	behind := make([]int, len(ring))
	for k, n := range ring {
		next := ring[(k+1)%len(ring)]
		if n > next {
			behind[k] = n - next
		} else {
			behind[k] = next - n
		}
	}
	return behind
}

// A ringKey has the numbers of a ring and -1 behind them.
type ringKey [10]int

func ringKeyOf(ring []int) ringKey {
	var key ringKey
	for k := range key {
		key[k] = -1
	}
	copy(key[:], ring)
	return key
}

// A ringWay has all rings that steps lead to, each once: those from lead on come again.
type ringWay struct {
	rings [][]int
	lead  int
}

func ringWayOf(ring []int) ringWay {
	var w ringWay
	seen := map[ringKey]int{}
	for {
		if at, again := seen[ringKeyOf(ring)]; again {
			w.lead = at
			return w
		}
		seen[ringKeyOf(ring)] = len(w.rings)
		w.rings = append(w.rings, ring)
		ring = ringStepped(ring)
	}
}

func (w ringWay) cycle() [][]int {
	return w.rings[w.lead:]
}

func (w ringWay) after(steps int) []int {
	if steps < len(w.rings) {
		return w.rings[steps]
	}
	return w.cycle()[(steps-w.lead)%len(w.cycle())]
}

func (w ringWay) stepsToZero() (int, bool) {
	for k, ring := range w.rings {
		if slices.Max(ring) == 0 {
			return k, true
		}
	}
	return 0, false
}

func (w ringWay) greatest() int {
	greatest := 0
	for _, ring := range w.cycle() {
		greatest = max(greatest, slices.Max(ring))
	}
	return greatest
}

func checkRingWay(t *testing.T, ring []int) {
	t.Helper()
	w := ringWayOf(ring)
	wantRing(t, "IsRing", ring, true)
	wantRing(t, "RingStep", ring, ringStepped(ring), true)
	wantWay(t, ring, w.lead, w.cycle()...)
	steps, toZero := w.stepsToZero()
	wantRing(t, "StepsToZero", ring, steps, toZero)
	wantRing(t, "ComesToZero", ring, toZero, true)
	wantRing(t, "GreatestAtLast", ring, w.greatest(), true)
	for _, n := range []int{0, 1, 2, w.lead - 1, w.lead, w.lead + 1, len(w.rings) - 1, len(w.rings), len(w.rings) + 1, w.lead + 2*len(w.cycle()), 999999999, 1000000000} {
		if n >= 0 {
			wantRingBy(t, "RingAfter", ring, n, w.after(n), true)
		}
	}
}

func TestAllSmallRings(t *testing.T) {
	for size, most := range map[int]int{2: 30, 3: 9, 4: 5, 5: 3, 6: 2, 7: 2, 8: 1, 9: 1, 10: 1} {
		eachList(size, most, func(ring []int) { checkRingWay(t, ring) })
	}
}

func someRing(next func(int) int, size int, kind int) []int {
	ring := make([]int, size)
	for k := range ring {
		switch kind {
		case 0:
			ring[k] = next(1001)
		case 1:
			ring[k] = 1000 * next(2)
		case 2:
			ring[k] = next(101)
		default:
			ring[k] = next(4)
		}
	}
	if kind == 3 {
		ring[next(size)] = 1000
	}
	return ring
}

func TestManyRings(t *testing.T) {
	next := random(71)
	for k := range 180 {
		checkRingWay(t, someRing(next, 2+k%9, k/9%4))
	}
}

// The results are held against each other: what comes again behind the period comes back to itself and not sooner, and
// what is before the lead does not.
func TestRingsComeAgainBehindLeadAndPeriod(t *testing.T) {
	next := random(72)
	for k := range 90 {
		ring := someRing(next, 2+k%9, k/9%4)
		lead, _ := impl.LeadOfRing(ring)
		period, _ := impl.PeriodOfRing(ring)
		cycle, ok := impl.CycleOfRing(ring)
		if !ok || len(cycle) != period || period < 1 {
			t.Fatalf("CycleOfRing of %v has %d rings, the period is %d", ring, len(cycle), period)
		}
		wantRingBy(t, "RingAfter", ring, lead, cycle[0], true)
		wantRingBy(t, "RingAfter", ring, lead+period, cycle[0], true)
		for j := range cycle {
			wantRing(t, "RingStep", cycle[j], cycle[(j+1)%period], true)
			if j > 0 && slices.Equal(cycle[j], cycle[0]) {
				t.Errorf("%v comes again behind %d steps, not %d", ring, j, period)
			}
		}
		if lead > 0 {
			before, _ := impl.RingAfter(ring, lead-1)
			if slices.ContainsFunc(cycle, func(r []int) bool { return slices.Equal(r, before) }) {
				t.Errorf("%v is before the lead %d of %v, and comes again", before, lead, ring)
			}
		}
	}
}

func TestRingAfterIsManySteps(t *testing.T) {
	next := random(73)
	for k := range 45 {
		ring := someRing(next, 2+k%9, k/9%4)
		behind := ring
		for steps := range 200 {
			wantRingBy(t, "RingAfter", ring, steps, behind, true)
			behind, _ = impl.RingStep(behind)
		}
	}
}

func TestRingsOfTwoFourAndEightComeToZero(t *testing.T) {
	next := random(74)
	for k := range 120 {
		for _, size := range []int{2, 4, 8} {
			ring := someRing(next, size, k%4)
			steps, ok := impl.StepsToZero(ring)
			zero, _ := impl.RingAfter(ring, steps)
			if !ok || slices.Max(zero) != 0 {
				t.Errorf("%v does not come to zero, but behind %d steps to %v", ring, steps, zero)
			}
			if steps > 0 {
				if before, _ := impl.RingAfter(ring, steps-1); slices.Max(before) == 0 {
					t.Errorf("%v comes to zero before %d steps", ring, steps)
				}
			}
		}
	}
}

func checkTurnsAndMirror(t *testing.T, ring []int) {
	t.Helper()
	lead, _ := impl.LeadOfRing(ring)
	period, _ := impl.PeriodOfRing(ring)
	mirrored := make([]int, len(ring))
	for k, n := range ring {
		mirrored[len(ring)-1-k] = n
	}
	wantRing(t, "MirrorRing", ring, mirrored, true)
	wantRing(t, "MirrorRing", mirrored, ring, true)
	wantRing(t, "LeadOfRing", mirrored, lead, true)
	wantRing(t, "PeriodOfRing", mirrored, period, true)
	for by := range ring {
		turned := make([]int, len(ring))
		for k := range ring {
			turned[k] = ring[(k+by)%len(ring)]
		}
		wantRingBy(t, "TurnRing", ring, by, turned, true)
		wantRing(t, "LeadOfRing", turned, lead, true)
		wantRing(t, "PeriodOfRing", turned, period, true)
	}
}

func TestTurnsAndMirrorsKeepLeadAndPeriod(t *testing.T) {
	for size := 2; size <= 9; size++ {
		eachList(size, 1, func(ring []int) { checkTurnsAndMirror(t, ring) })
	}
	eachList(4, 3, func(ring []int) { checkTurnsAndMirror(t, ring) })
	next := random(75)
	for k := range 90 {
		checkTurnsAndMirror(t, someRing(next, 2+k%9, k/9%4))
	}
}

func TestLiftedAndScaledRings(t *testing.T) {
	next := random(76)
	for k := range 400 {
		ring := someRing(next, 2+k%9, k/9%4)
		greatest := max(slices.Max(ring), 1)
		behind := ringStepped(ring)
		for _, by := range []int{0, 1, next(1001), 1000 - greatest, 1001 - greatest, 1000} {
			lifted := slices.Clone(ring)
			for j := range lifted {
				lifted[j] += by
			}
			if slices.Max(lifted) > 1000 {
				wantNoRingBy(t, "LiftRing", ring, by)
				continue
			}
			wantRingBy(t, "LiftRing", ring, by, lifted, true)
			wantRing(t, "RingStep", lifted, behind, true)
		}
		for _, by := range []int{0, 1, 2, next(1001), 1000 / greatest, min(1000/greatest+1, 1000), 1000} {
			scaled, scaledBehind := slices.Clone(ring), slices.Clone(behind)
			for j := range scaled {
				scaled[j] *= by
				scaledBehind[j] *= by
			}
			if slices.Max(scaled) > 1000 {
				wantNoRingBy(t, "ScaleRing", ring, by)
				continue
			}
			wantRingBy(t, "ScaleRing", ring, by, scaled, true)
			wantRing(t, "RingStep", scaled, scaledBehind, true)
		}
	}
}

func TestLongestPeriodsAndCyclingRings(t *testing.T) {
	for size := 2; size <= 10; size++ {
		longest, cycling := 0, 0
		eachList(size, 1, func(ring []int) {
			w := ringWayOf(ring)
			longest = max(longest, len(w.cycle()))
			if w.lead == 0 {
				cycling++
			}
		})
		wantLongest(t, size, longest, cycling)
	}
}

func TestSlowestRings(t *testing.T) {
	for _, size := range []int{2, 4} {
		for most := range 7 {
			slowest, greatest := []int{}, -1
			eachList(size, most, func(ring []int) {
				steps, _ := ringWayOf(ring).stepsToZero()
				if steps > greatest {
					slowest, greatest = ring, steps
				}
			})
			wantSlowestRing(t, size, most, slowest, greatest)
			if ring, steps, _ := impl.SlowestToZero(size, most); len(ring) == size {
				wantToZero(t, ring, steps)
			}
		}
	}
}

// Around a ring with a 0 the numbers go up as far as down: none is greater than half of all differences together. So
// for rings with at most 2 * most + 1 together, all rings before have numbers of at most most.
func TestRingsBeforeAreAllThatThereAre(t *testing.T) {
	for size, most := range map[int]int{2: 100, 3: 16, 4: 8, 5: 5, 6: 3, 7: 2, 8: 2, 9: 1, 10: 1} {
		before := map[ringKey][][]int{}
		eachList(size, most, func(ring []int) {
			if slices.Min(ring) == 0 {
				key := ringKeyOf(ringStepped(ring))
				before[key] = append(before[key], ring)
			}
		})
		eachList(size, most, func(ring []int) {
			if sumOf(ring) <= 2*most+1 {
				wantBefore(t, ring, before[ringKeyOf(ring)]...)
			}
		})
	}
}

// signsThatClose counts how the numbers of a ring can be added or subtracted, where they are not 0, so that the sum is 0.
func signsThatClose(ring []int) int {
	sums := map[int]int{0: 1}
	for _, n := range ring {
		if n == 0 {
			continue
		}
		next := map[int]int{}
		for sum, count := range sums {
			next[sum+n] += count
			next[sum-n] += count
		}
		sums = next
	}
	return sums[0]
}

func checkBefore(t *testing.T, ring []int) [][]int {
	t.Helper()
	before, ok := impl.RingsBefore(ring)
	if !ok {
		t.Fatalf("RingsBefore of %v failed", ring)
	}
	for k, r := range before {
		if !impl.IsRing(r) || len(r) != len(ring) || slices.Min(r) != 0 || k > 0 && slices.Compare(before[k-1], r) >= 0 {
			t.Errorf("RingsBefore of %v has %v behind %v", ring, r, before[:k])
		}
		wantRing(t, "RingStep", r, ring, true)
	}
	count := signsThatClose(ring)
	wantRing(t, "CountRingsBefore", ring, count, true)
	wantRing(t, "HasRingBefore", ring, count > 0, true)
	if len(before) != count {
		t.Errorf("RingsBefore of %v has %d rings, want %d", ring, len(before), count)
	}
	return before
}

func TestRingsBeforeLeadToTheRing(t *testing.T) {
	next := random(77)
	for k := range 360 {
		ring := someRing(next, 2+k%9, 2)
		checkBefore(t, ring)
		// This one is before its own step. Without its least number it has a 0.
		low := slices.Clone(ring)
		for j := range low {
			low[j] -= slices.Min(ring)
		}
		before := checkBefore(t, ringStepped(ring))
		if !slices.ContainsFunc(before, func(r []int) bool { return slices.Equal(r, low) }) {
			t.Errorf("RingsBefore %v are without %v", ringStepped(ring), low)
		}
	}
}

func TestRingsBeforeOfManyEqualNumbers(t *testing.T) {
	next := random(78)
	for k := range 120 {
		ring := make([]int, 2+k%9)
		for j := range ring {
			ring[j] = []int{0, 50, 100}[next(3)]
		}
		checkBefore(t, ring)
	}
	for size, count := range map[int]int{2: 2, 3: 0, 4: 6, 5: 0, 6: 20, 7: 0, 8: 70, 9: 0, 10: 252} {
		for _, n := range []int{1, 37, 99, 100} {
			if before := checkBefore(t, repeated(n, size)); len(before) != count {
				t.Errorf("there are %d rings before %d times %d, want %d", len(before), size, n, count)
			}
		}
	}
	before := checkBefore(t, repeated(100, 10))
	wantSame(t, "the first and the last ring before", []any{before[0], before[251]},
		[]int{0, 100, 0, 100, 0, 100, 0, 100, 0, 100}, []int{500, 400, 300, 200, 100, 0, 100, 200, 300, 400})
}
