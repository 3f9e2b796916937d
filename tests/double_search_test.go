package tests

import (
	"cmp"
	"fmt"
	"slices"
	"strconv"
	"testing"

	"loop.example/g01333/impl"
)

// The searches of this file know only what a doubling is; they are slow, and hold for few stones or few samples.

// eachFew calls do with all lists of so many heaps with 1 up to so many stones together.
func eachFew(size int, stones int, do func([]int)) {
	for sum := 1; sum <= stones; sum++ {
		eachFewWith(size, sum, do)
	}
}

func eachFewWith(size int, sum int, do func([]int)) {
	heaps := make([]int, size)
	var fill func(k int, left int)
	fill = func(k int, left int) {
		if k == size-1 {
			heaps[k] = left
			do(slices.Clone(heaps))
			return
		}
		for n := range left + 1 {
			heaps[k] = n
			fill(k+1, left-n)
		}
	}
	fill(0, sum)
}

// doubledBy returns the heaps behind a doubling, or nil if it cannot be made.
func doubledBy(heaps []int, from int, to int) []int {
	if from == to || heaps[to] == 0 || heaps[from] < heaps[to] {
		return nil
	}
	behind := slices.Clone(heaps)
	behind[to] = 2 * heaps[to]
	behind[from] = heaps[from] - heaps[to]
	return behind
}

// A step is a doubling and the heaps behind it.
type step struct {
	d      impl.Doubling
	behind []int
}

func stepsOf(heaps []int) []step {
	var steps []step
	for from := range heaps {
		for to := range heaps {
			if behind := doubledBy(heaps, from, to); behind != nil {
				steps = append(steps, step{doubling(from, to), behind})
			}
		}
	}
	return steps
}

// distances returns how many doublings at least lead to all heaps that are reached.
func distances(heaps []int) map[state]int {
	far := map[state]int{stateOf(heaps): 0}
	front := [][]int{heaps}
	for steps := 1; len(front) > 0; steps++ {
		var behind [][]int
		for _, h := range front {
			for _, s := range stepsOf(h) {
				if _, known := far[stateOf(s.behind)]; !known {
					far[stateOf(s.behind)] = steps
					behind = append(behind, s.behind)
				}
			}
		}
		front = behind
	}
	return far
}

// emptyWithin returns the first list of just so many doublings behind which a heap is empty, all lists tried in order.
func emptyWithin(heaps []int, size int) ([]impl.Doubling, bool) {
	if size == 0 {
		return nil, slices.Contains(heaps, 0)
	}
	for _, s := range stepsOf(heaps) {
		if rest, ok := emptyWithin(s.behind, size-1); ok {
			return append([]impl.Doubling{s.d}, rest...), true
		}
	}
	return nil, false
}

func everEmpty(heaps []int) bool {
	for s := range distances(heaps) {
		if slices.Contains(s[:], 0) {
			return true
		}
	}
	return false
}

func checkEmptying(t *testing.T, heaps []int) {
	t.Helper()
	var want []impl.Doubling
	found := false
	for size := 0; !found; size++ {
		want, found = emptyWithin(heaps, size)
	}
	wantDouble(t, "FirstToEmpty", heaps, want, true)
	wantDouble(t, "FewestToEmpty", heaps, len(want), true)
}

func TestEmptyingAgainstAllLists(t *testing.T) {
	for size, stones := range map[int]int{2: 40, 3: 18, 4: 12} {
		eachFew(size, stones, func(heaps []int) {
			if size == 2 && !everEmpty(heaps) {
				wantDouble(t, "FirstToEmpty", heaps, []impl.Doubling{}, false)
				wantDouble(t, "FewestToEmpty", heaps, 0, false)
				return
			}
			checkEmptying(t, heaps)
		})
	}
}

// someFewHeaps returns heaps with 40 stones together.
func someFewHeaps(next func(int) int, size int) []int {
	heaps := make([]int, size)
	for range 40 {
		heaps[next(size)]++
	}
	if next(2) == 0 {
		heaps[0], heaps[1] = heaps[0]+heaps[1]-1, 1
	}
	return heaps
}

func TestEmptyingOfManyStones(t *testing.T) {
	next := random(23)
	for k := range 60 {
		checkEmptying(t, someFewHeaps(next, 3+k%2))
	}
}

func checkReached(t *testing.T, heaps []int) map[state]int {
	t.Helper()
	far := distances(heaps)
	wantDouble(t, "CountReached", heaps, len(far), true)
	return far
}

func TestReachedHeapsAgainstASearch(t *testing.T) {
	for size, stones := range map[int]int{2: 40, 3: 9, 4: 6} {
		eachFew(size, stones, func(heaps []int) {
			far := checkReached(t, heaps)
			eachFewWith(size, sumOf(heaps), func(goal []int) {
				want, leads := far[stateOf(goal)]
				steps, ok := impl.FewestToBecome(heaps, goal)
				wantSame(t, fmt.Sprint("FewestToBecome of ", heaps, goal), []any{steps, ok}, want, leads)
			})
		})
	}
}

func TestReachedHeapsOfManyStones(t *testing.T) {
	next := random(24)
	for k := range 8 {
		heaps := someFewHeaps(next, 3+k%2)
		far := checkReached(t, heaps)
		tried := 0
		eachFewWith(len(heaps), 40, func(goal []int) {
			if next(500) > 0 {
				return
			}
			tried++
			want, leads := far[stateOf(goal)]
			steps, ok := impl.FewestToBecome(heaps, goal)
			wantSame(t, fmt.Sprint("FewestToBecome of ", heaps, goal), []any{steps, ok}, want, leads)
		})
		if tried == 0 && len(heaps) == 4 {
			t.Error("no goal was tried for", heaps)
		}
	}
}

func TestHeapsBeforeAgainstAllHeaps(t *testing.T) {
	for size, stones := range map[int]int{2: 40, 3: 14, 4: 9} {
		for sum := 1; sum <= stones; sum++ {
			before := map[state][][]int{}
			eachFewWith(size, sum, func(heaps []int) {
				wantDouble(t, "AreFewHeaps", heaps, true)
				for _, s := range stepsOf(heaps) {
					before[stateOf(s.behind)] = append(before[stateOf(s.behind)], heaps)
				}
			})
			eachFewWith(size, sum, func(heaps []int) {
				want := before[stateOf(heaps)]
				slices.SortFunc(want, slices.Compare[[]int])
				wantDouble(t, "HeapsBefore", heaps, want, true)
			})
		}
	}
}

func TestDoublingsAgainstTheRule(t *testing.T) {
	for size, stones := range map[int]int{2: 40, 3: 16, 4: 10} {
		eachFew(size, stones, func(heaps []int) {
			var want []impl.Doubling
			for _, s := range stepsOf(heaps) {
				want = append(want, s.d)
				behind, ok := impl.DoubleHeap(heaps, s.d)
				wantSame(t, fmt.Sprint("DoubleHeap of ", heaps, s.d), []any{behind, ok}, s.behind, true)
			}
			wantDouble(t, "DoublingsOf", heaps, want, true)
		})
	}
}

// divided returns the doublings for one quotient, by the words of the document, and the heaps behind them.
func divided(t *testing.T, heaps []int) ([]impl.Doubling, []int) {
	t.Helper()
	order := []int{0, 1, 2}
	slices.SortFunc(order, func(x int, y int) int { return cmp.Or(cmp.Compare(heaps[x], heaps[y]), cmp.Compare(x, y)) })
	a, b, c := order[0], order[1], order[2]
	least := heaps[a]
	digits := strconv.FormatInt(int64(heaps[b]/least), 2)
	var list []impl.Doubling
	for k := len(digits) - 1; k >= 0; k-- {
		from := map[byte]int{'1': b, '0': c}[digits[k]]
		list = append(list, doubling(from, a))
		behind := doubledBy(heaps, from, a)
		if behind == nil {
			t.Fatalf("%d cannot be doubled from %d in %v", a, from, heaps)
		}
		heaps = behind
	}
	if heaps[b] >= least {
		t.Errorf("the heap %d of %v has no less than %d", b, heaps, least)
	}
	return list, heaps
}

func TestQuotientsOfAllThreeHeaps(t *testing.T) {
	eachFew(3, 40, func(heaps []int) {
		want := []impl.Doubling{}
		last := heaps
		for !slices.Contains(last, 0) {
			list, behind := divided(t, last)
			want = append(want, list...)
			last = behind
		}
		wantDouble(t, "QuotientDoublings", heaps, want, true)
		played, ok := impl.PlayDoublings(heaps, want)
		wantSame(t, fmt.Sprint("PlayDoublings of ", heaps), []any{played, ok}, last, true)
	})
}

func TestDoublingsKeepTheStones(t *testing.T) {
	next := random(25)
	for k := range 500 {
		heaps := someFewHeaps(next, 2+k%3)
		want := heaps
		var list []impl.Doubling
		for len(list) < 100 {
			steps := stepsOf(want)
			if len(steps) == 0 {
				break
			}
			s := steps[next(len(steps))]
			list = append(list, s.d)
			want = s.behind
		}
		played, ok := impl.PlayDoublings(heaps, list)
		wantSame(t, fmt.Sprint("PlayDoublings of ", heaps, list), []any{played, ok}, want, true)
		if sumOf(played) != 40 {
			t.Errorf("PlayDoublings of %v and %v: %v", heaps, list, played)
		}
	}
}
