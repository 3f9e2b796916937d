package tests

import (
	"slices"
	"testing"

	"loop.example/g01333/impl"
)

func TestCandyExample(t *testing.T) {
	wantCandy(t, "CandyStep", []int{4, 0}, []int{2, 2}, true)
	wantCandy(t, "IsResting", []int{2, 2}, true, true)

	list := []int{3, 1, 0}
	wantCandy(t, "MadeEven", list, []int{4, 2, 0}, true)
	trace := [][]int{{3, 1, 0}, {2, 3, 1}, {2, 3, 3}, {3, 3, 4}, {4, 4, 4}}
	for k, had := range trace[1:] {
		wantCandy(t, "CandyStep", trace[k], had, true)
	}
	wantCandy(t, "CandyTrace", list, trace, true)
	wantCandy(t, "IsResting", []int{4, 4, 4}, true, true)
	wantCandy(t, "StepsToRest", list, 4, true)
	wantCandy(t, "FromTeacher", list, 8, true)
	wantCandy(t, "GivenTo", list, []int{2, 4, 2}, true)

	wantCandy(t, "FirstLevel", []int{1, 1, 1}, 0, true)
	wantCandy(t, "StepsToRest", []int{1, 1, 1}, 1, true)
}

func TestSingleSteps(t *testing.T) {
	rows := []struct{ list, even, right, left []int }{
		{[]int{7, 3}, []int{8, 4}, []int{6, 6}, []int{6, 6}},
		{[]int{94, 200}, []int{94, 200}, []int{147, 147}, []int{147, 147}},
		{[]int{199, 200}, []int{200, 200}, []int{200, 200}, []int{200, 200}},
		{[]int{3, 1, 0}, []int{4, 2, 0}, []int{2, 3, 1}, []int{3, 1, 2}},
		{[]int{0, 0, 2}, []int{0, 0, 2}, []int{1, 0, 1}, []int{0, 1, 1}},
		{[]int{1, 2, 3}, []int{2, 2, 4}, []int{3, 2, 3}, []int{2, 3, 3}},
		{[]int{2, 4, 6, 8}, []int{2, 4, 6, 8}, []int{5, 3, 5, 7}, []int{3, 5, 7, 5}},
		{[]int{1, 3, 5, 7}, []int{2, 4, 6, 8}, []int{5, 3, 5, 7}, []int{3, 5, 7, 5}},
		{[]int{0, 1, 2, 3, 4, 5}, []int{0, 2, 2, 4, 4, 6}, []int{3, 1, 2, 3, 4, 5}, []int{1, 2, 3, 4, 5, 3}},
		{oneHasAll(12, 0, 200), oneHasAll(12, 0, 200), append([]int{100, 100}, repeated(0, 10)...), append(append([]int{100}, repeated(0, 10)...), 100)},
		{oneHasAll(12, 11, 1), oneHasAll(12, 11, 2), append(append([]int{1}, repeated(0, 10)...), 1), append(repeated(0, 10), 1, 1)},
	}
	for _, r := range rows {
		wantCandy(t, "AreCandies", r.list, true)
		wantCandy(t, "MadeEven", r.list, r.even, true)
		wantCandy(t, "CandyStep", r.list, r.right, true)
		wantAfter(t, r.list, 1, r.right)
		wantCandy(t, "PassLeft", r.list, r.left, true)
	}
}

// Lists of one number are at rest if it is even, and come to rest by one step if it is odd.
func TestLevelCandies(t *testing.T) {
	for _, n := range []int{0, 1, 2, 5, 6, 99, 100, 198, 199, 200} {
		for size := 2; size <= 12; size++ {
			list, odd := repeated(n, size), n%2
			rest := repeated(n+odd, size)
			wantCandy(t, "IsResting", list, odd == 0, true)
			wantCandy(t, "MadeEven", list, rest, true)
			wantCandy(t, "CandyStep", list, rest, true)
			wantCandy(t, "PassLeft", list, rest, true)
			wantCandy(t, "FirstLevel", list, 0, true)
			wantCandy(t, "StepsToRest", list, odd, true)
			wantCandy(t, "RestOfCandies", list, n+odd, true)
			wantCandy(t, "FromTeacher", list, size*odd, true)
			wantCandy(t, "GivenTo", list, repeated(odd, size), true)
			wantCandy(t, "CandyTrace", list, [][]int{list, rest}[:1+odd], true)
			wantCandy(t, "SpreadTrace", list, repeated(0, 1+odd), true)
		}
	}
}

func TestWaysToRest(t *testing.T) {
	rows := []struct {
		trace [][]int
		given []int
		level int
	}{
		{[][]int{{4, 0}, {2, 2}}, []int{0, 0}, 1},
		{[][]int{{0, 4}, {2, 2}}, []int{0, 0}, 1},
		{[][]int{{200, 0}, {100, 100}}, []int{0, 0}, 1},
		{[][]int{{7, 3}, {6, 6}}, []int{1, 1}, 1},
		{[][]int{{199, 200}, {200, 200}}, []int{1, 0}, 1},
		{[][]int{{1, 0}, {1, 1}, {2, 2}}, []int{2, 1}, 1},
		{[][]int{{0, 1}, {1, 1}, {2, 2}}, []int{1, 2}, 1},
		{[][]int{{2, 0}, {1, 1}, {2, 2}}, []int{1, 1}, 1},
		{[][]int{{94, 200}, {147, 147}, {148, 148}}, []int{1, 1}, 1},
		{[][]int{{199, 1, 199, 1}, {101, 101, 101, 101}, {102, 102, 102, 102}}, []int{2, 2, 2, 2}, 1},
		{[][]int{{200, 0, 200, 0}, {100, 100, 100, 100}}, []int{0, 0, 0, 0}, 1},
		{[][]int{{0, 0, 2}, {1, 0, 1}, {2, 1, 1}, {2, 2, 2}}, []int{1, 1, 2}, 3},
		{[][]int{{1, 2, 3}, {3, 2, 3}, {4, 3, 3}, {4, 4, 4}}, []int{2, 1, 3}, 3},
		{[][]int{{2, 4, 6, 8}, {5, 3, 5, 7}, {7, 5, 5, 7}, {8, 7, 6, 7}, {8, 8, 7, 7}, {8, 8, 8, 8}}, []int{2, 3, 3, 4}, 5},
		{[][]int{{1, 3, 5, 7}, {5, 3, 5, 7}, {7, 5, 5, 7}, {8, 7, 6, 7}, {8, 8, 7, 7}, {8, 8, 8, 8}}, []int{3, 4, 4, 5}, 5},
	}
	for _, r := range rows {
		list, last := r.trace[0], r.trace[len(r.trace)-1]
		wantCandy(t, "CandyTrace", list, r.trace, true)
		wantCandy(t, "StepsToRest", list, len(r.trace)-1, true)
		wantCandy(t, "RestOfCandies", list, last[0], true)
		wantCandy(t, "GivenTo", list, r.given, true)
		wantCandy(t, "FromTeacher", list, sumOf(r.given), true)
		wantCandy(t, "FirstLevel", list, r.level, true)
		for k, had := range r.trace {
			wantAfter(t, list, k, had)
			wantCandy(t, "IsResting", had, k == len(r.trace)-1, true)
		}
		wantAfter(t, list, len(r.trace), last)
		wantAfter(t, list, 1000000, last)
	}
}

func TestSpreads(t *testing.T) {
	rows := []struct{ list, want []int }{
		{[]int{3, 1, 0}, []int{3, 2, 1, 1, 0}},
		{[]int{4, 0}, []int{4, 0}},
		{[]int{94, 200}, []int{106, 0, 0}},
		{[]int{2, 4, 6, 8}, []int{6, 4, 2, 2, 1, 0}},
		{[]int{0, 1, 2, 3, 4, 5}, []int{5, 4, 3, 3, 2, 2, 1, 0}},
		{oneHasAll(12, 0, 1), []int{1, 1, 2, 2, 2, 2, 2, 2, 2, 2, 2, 1, 0}},
	}
	for _, r := range rows {
		wantCandy(t, "SpreadTrace", r.list, r.want, true)
	}
}

func TestOneChildHasAll(t *testing.T) {
	given := []int{30, 34, 31, 25, 26, 29, 30, 26, 29, 27, 17, 24}
	for child := range 12 {
		list := oneHasAll(12, child, 200)
		wantCandy(t, "StepsToRest", list, 54, true)
		wantCandy(t, "RestOfCandies", list, 44, true)
		wantCandy(t, "FromTeacher", list, 328, true)
		wantCandy(t, "GivenTo", list, slices.Concat(given[12-child:], given[:12-child]), true)
	}
}

// No list is known that needs more steps than the longest ones here, which a long search found: none of these traces
// has as many as 200, and so each one succeeds.
func TestLongestTraces(t *testing.T) {
	rows := []struct {
		list  []int
		steps int
		rest  int
	}{
		{[]int{94, 200}, 2, 148},
		{[]int{200, 200, 0}, 10, 136},
		{[]int{200, 200, 0, 0}, 17, 106},
		{[]int{200, 200, 200, 0, 0}, 25, 130},
		{[]int{200, 200, 200, 0, 0, 0}, 34, 114},
		{[]int{0, 0, 200, 200, 200, 124, 0}, 44, 126},
		{[]int{200, 200, 200, 200, 0, 0, 0, 0}, 55, 124},
		{[]int{200, 200, 200, 200, 0, 0, 0, 0, 0}, 66, 118},
		{[]int{199, 200, 47, 0, 0, 0, 0, 155, 200, 200}, 79, 140},
		{[]int{200, 200, 200, 200, 200, 0, 0, 0, 0, 0, 0}, 91, 132},
		{[]int{200, 200, 200, 200, 200, 200, 0, 0, 0, 0, 0, 0}, 101, 146},
		{[]int{0, 0, 0, 164, 199, 200, 200, 200, 187, 0, 0, 0}, 103, 146},
	}
	for _, r := range rows {
		wantCandy(t, "StepsToRest", r.list, r.steps, true)
		wantCandy(t, "RestOfCandies", r.list, r.rest, true)
		trace, ok := impl.CandyTrace(r.list)
		spreads, spreadsOK := impl.SpreadTrace(r.list)
		if !ok || !spreadsOK || len(trace) != r.steps+1 || len(spreads) != r.steps+1 {
			t.Errorf("the traces of %v have %d and %d lists, %v, %v", r.list, len(trace), len(spreads), ok, spreadsOK)
		}
	}
}

func TestTurnedAndMirroredCircles(t *testing.T) {
	list := []int{3, 1, 0, 200}
	for by, want := range [][]int{{3, 1, 0, 200}, {1, 0, 200, 3}, {0, 200, 3, 1}, {200, 3, 1, 0}} {
		wantTurned(t, list, by, want)
	}
	wantTurned(t, []int{5, 6}, 0, []int{5, 6})
	wantTurned(t, []int{5, 6}, 1, []int{6, 5})
	twelve := []int{0, 1, 2, 3, 4, 5, 6, 7, 8, 9, 10, 11}
	wantTurned(t, twelve, 11, []int{11, 0, 1, 2, 3, 4, 5, 6, 7, 8, 9, 10})
	wantTurned(t, twelve, 5, []int{5, 6, 7, 8, 9, 10, 11, 0, 1, 2, 3, 4})
	wantCandy(t, "MirrorCircle", list, []int{200, 0, 1, 3}, true)
	wantCandy(t, "MirrorCircle", []int{3, 1, 0}, []int{0, 1, 3}, true)
	wantCandy(t, "MirrorCircle", []int{5, 6}, []int{6, 5}, true)
	wantCandy(t, "MirrorCircle", twelve, []int{11, 10, 9, 8, 7, 6, 5, 4, 3, 2, 1, 0}, true)
}

func TestSlowestCircles(t *testing.T) {
	wantSlowest(t, 2, 0, []int{0, 0}, 0)
	wantSlowest(t, 2, 1, []int{0, 1}, 2)
	wantSlowest(t, 2, 8, []int{0, 1}, 2)
	wantSlowest(t, 3, 0, []int{0, 0, 0}, 0)
	wantSlowest(t, 3, 2, []int{0, 0, 1}, 3)
	wantSlowest(t, 3, 4, []int{0, 1, 3}, 4)
	wantSlowest(t, 3, 8, []int{0, 0, 5}, 5)
	wantSlowest(t, 4, 0, []int{0, 0, 0, 0}, 0)
	wantSlowest(t, 4, 1, []int{0, 0, 0, 1}, 4)
	wantSlowest(t, 4, 3, []int{0, 0, 1, 3}, 5)
	wantSlowest(t, 4, 8, []int{0, 0, 1, 7}, 7)
}

func TestCountsByRest(t *testing.T) {
	rows := []struct {
		children, most int
		want           map[int]int
	}{
		{2, 0, map[int]int{0: 1}},
		{2, 1, map[int]int{0: 1, 2: 3}},
		{2, 8, map[int]int{0: 1, 2: 12, 4: 28, 6: 28, 8: 12}},
		{3, 0, map[int]int{0: 1}},
		{3, 7, map[int]int{0: 1, 2: 32, 4: 149, 6: 251, 8: 79}},
		{4, 0, map[int]int{0: 1}},
		{4, 8, map[int]int{0: 1, 2: 112, 4: 1008, 6: 2992, 8: 2448}},
	}
	for _, r := range rows {
		for _, rest := range []int{0, 1, 2, 3, 4, 5, 6, 7, 8, 9, 10, 12, 200, 201, 999, 1000} {
			wantCount(t, r.children, r.most, rest, r.want[rest])
		}
	}
}
