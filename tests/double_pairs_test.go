package tests

import (
	"fmt"
	"testing"

	"loop.example/g01333/impl"
)

func TestPairSteps(t *testing.T) {
	rows := [][4]int{{5, 3, 2, 6}, {2, 6, 4, 4}, {4, 4, 0, 8}, {0, 8, 0, 8}, {8, 0, 8, 0}, {1, 0, 1, 0}, {0, 1, 0, 1}, {1, 1, 0, 2},
		{50000, 50000, 0, 100000}, {1, 99999, 2, 99998}, {99999, 1, 99998, 2}, {100000, 0, 100000, 0}, {0, 100000, 0, 100000}, {49999, 50001, 99998, 2}}
	for _, r := range rows {
		wantPair(t, "PairStep", r[0], r[1], r[2], r[3], true)
		wantPair(t, "PairAfter 0", r[0], r[1], r[0], r[1], true)
	}
}

func TestPairAfterManySteps(t *testing.T) {
	rows := [][5]int{
		{1, 2, 999999, 2, 1},
		{1, 2, 1000000, 1, 2},
		{5, 3, 1000000, 0, 8},
		{8, 0, 1000000, 8, 0},
		{0, 8, 1000000, 0, 8},
		{1, 0, 1000000, 1, 0},
		{100000, 0, 1000000, 100000, 0},
		{1, 99999, 5, 32, 99968},
		{1, 99999, 17, 31072, 68928},
		{1, 99999, 2500, 9376, 90624}, // 2 to the power of 2500 ends with 09376
		{1, 99999, 1000000, 9376, 90624},
		{1, 65535, 15, 32768, 32768},
		{1, 65535, 16, 0, 65536},
	}
	for _, r := range rows {
		x, y, ok := impl.PairAfter(r[0], r[1], r[2])
		wantSame(t, fmt.Sprint("PairAfter of ", r), []any{x, y, ok}, r[3], r[4], true)
	}
}

func TestLeadsAndPeriods(t *testing.T) {
	rows := []struct {
		a, b, lead, period int
		empties            bool
	}{
		{1, 2, 0, 2, false},
		{1, 4, 0, 4, false},
		{3, 4, 0, 3, false},
		{10, 20, 0, 2, false},
		{1, 5, 1, 2, false},
		{5, 3, 3, 1, true},
		{4, 4, 1, 1, true},
		{0, 8, 0, 1, true},
		{8, 0, 0, 1, true},
		{1, 0, 0, 1, true},
		{0, 1, 0, 1, true},
		{0, 100000, 0, 1, true},
		{100000, 0, 0, 1, true},
		{50000, 50000, 1, 1, true},
		{25000, 75000, 2, 1, true},
		{3125, 96875, 5, 1, true},
		{1, 99999, 5, 2500, false},
		{99999, 1, 5, 2500, false},
		{1, 65535, 16, 1, true},
		{65535, 1, 16, 1, true},
		{32768, 65536, 0, 2, false},
	}
	for _, r := range rows {
		wantPair(t, "PairLead", r.a, r.b, r.lead, true)
		wantPair(t, "PairPeriod", r.a, r.b, r.period, true)
		wantPair(t, "DoesPairEmpty", r.a, r.b, r.empties, true)
		if r.empties {
			wantPair(t, "PairStepsToEmpty", r.a, r.b, r.lead, true)
		} else {
			wantPair(t, "PairStepsToEmpty", r.a, r.b, 0, false)
		}
	}
}

// nextPair doubles the lesser heap, or b if both have as many, by the words of the document.
func nextPair(p [2]int) [2]int {
	lesser, other := 0, 1
	if p[1] <= p[0] {
		lesser, other = 1, 0
	}
	if p[lesser] > 0 {
		p[other] -= p[lesser]
		p[lesser] += p[lesser]
	}
	return p
}

// checkPair walks until a pair comes again, and compares what the walk tells.
func checkPair(t *testing.T, a int, b int) {
	t.Helper()
	first := map[[2]int]int{}
	walk := [][2]int{}
	empty := -1
	p := [2]int{a, b}
	for {
		if _, again := first[p]; again {
			break
		}
		if empty < 0 && p[0]*p[1] == 0 {
			empty = len(walk)
		}
		first[p] = len(walk)
		walk = append(walk, p)
		p = nextPair(p)
	}
	lead, period := first[p], len(walk)-first[p]
	wantPair(t, "PairLead", a, b, lead, true)
	wantPair(t, "PairPeriod", a, b, period, true)
	wantPair(t, "DoesPairEmpty", a, b, empty >= 0, true)
	wantPair(t, "PairStepsToEmpty", a, b, max(empty, 0), empty >= 0)
	behind := nextPair(walk[0])
	wantPair(t, "PairStep", a, b, behind[0], behind[1], true)
	for _, steps := range []int{0, 1, 2, lead, lead + 1, lead + period, 5000} {
		at := steps
		if at >= len(walk) {
			at = lead + (steps-lead)%period
		}
		x, y, ok := impl.PairAfter(a, b, steps)
		wantSame(t, fmt.Sprint("PairAfter of ", a, ", ", b, ", ", steps), []any{x, y, ok}, walk[at][0], walk[at][1], true)
	}
}

func TestAllSmallPairs(t *testing.T) {
	for stones := 1; stones <= 70; stones++ {
		for a := 0; a <= stones; a++ {
			checkPair(t, a, stones-a)
		}
	}
}

func TestGreatPairs(t *testing.T) {
	next := random(21)
	for k := range 120 {
		stones := []int{100000, 99999, 99991, 65536, 98304, 1 + next(100000)}[k%6]
		a := next(stones + 1)
		checkPair(t, a, stones-a)
	}
}

// A step of few heaps that are two is a doubling of the lesser one.
func TestPairStepsAreDoublings(t *testing.T) {
	eachFew(2, 40, func(heaps []int) {
		a, b, ok := impl.PairStep(heaps[0], heaps[1])
		want := heaps
		if heaps[0] > 0 && heaps[1] > 0 {
			d := doubling(0, 1)
			if heaps[0] < heaps[1] {
				d = doubling(1, 0)
			}
			want, ok = impl.DoubleHeap(heaps, d)
		}
		wantSame(t, fmt.Sprint("PairStep of ", heaps), []any{a, b, ok}, want[0], want[1], true)
	})
}
