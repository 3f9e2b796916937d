package tests

import (
	"fmt"
	"math"
	"slices"
	"testing"

	"loop.example/g01333/impl"
)

// The searches of this file know only what a step is; all else is counted along the way.

// A candyWay is what steps do with a list until one changes nothing.
type candyWay struct {
	trace   [][]int
	spreads []int
	given   []int
	level   int
}

func evenAndGiven(list []int) ([]int, []int) {
	even, given := slices.Clone(list), make([]int, len(list))
	for k, n := range list {
		if n%2 == 1 {
			even[k]++
			given[k]++
		}
	}
	return even, given
}

// passed returns what each child has behind a step in which halves go so many children farther to the right.
func passed(list []int, by int) []int {
	even, _ := evenAndGiven(list)
	behind := slices.Clone(even)
	for k, n := range even {
		behind[k] -= n / 2
		behind[(k+by+len(list))%len(list)] += n / 2
	}
	return behind
}

func wayOf(list []int) candyWay {
	w := candyWay{given: make([]int, len(list)), level: -1}
	for {
		spread := slices.Max(list) - slices.Min(list)
		if spread == 0 && w.level < 0 {
			w.level = len(w.trace)
		}
		w.trace = append(w.trace, list)
		w.spreads = append(w.spreads, spread)
		behind := passed(list, 1)
		if slices.Equal(behind, list) {
			return w
		}
		_, given := evenAndGiven(list)
		for k, n := range given {
			w.given[k] += n
		}
		list = behind
	}
}

func (w candyWay) steps() int {
	return len(w.trace) - 1
}

func (w candyWay) rest() int {
	return w.trace[w.steps()][0]
}

func checkCandies(t *testing.T, list []int) {
	t.Helper()
	w := wayOf(list)
	even, _ := evenAndGiven(list)
	wantCandy(t, "AreCandies", list, true)
	wantCandy(t, "MadeEven", list, even, true)
	wantCandy(t, "CandyStep", list, passed(list, 1), true)
	wantCandy(t, "PassLeft", list, passed(list, -1), true)
	wantCandy(t, "IsResting", list, w.steps() == 0, true)
	wantCandy(t, "StepsToRest", list, w.steps(), true)
	wantCandy(t, "RestOfCandies", list, w.rest(), true)
	wantCandy(t, "GivenTo", list, w.given, true)
	wantCandy(t, "FromTeacher", list, sumOf(w.given), true)
	wantCandy(t, "FirstLevel", list, w.level, true)
	if w.steps() <= 200 {
		wantCandy(t, "CandyTrace", list, w.trace, true)
		wantCandy(t, "SpreadTrace", list, w.spreads, true)
	} else {
		wantCandy(t, "CandyTrace", list, [][]int{}, false)
		wantCandy(t, "SpreadTrace", list, []int{}, false)
	}
	for _, steps := range []int{0, 2, w.steps() / 2, w.steps() - 1, w.steps(), w.steps() + 1, 1000000} {
		if steps >= 0 {
			wantAfter(t, list, steps, w.trace[min(steps, w.steps())])
		}
	}
	checkRest(t, list, w)
}

// checkRest holds the results against each other: candies are neither lost nor made but by the teacher.
func checkRest(t *testing.T, list []int, w candyWay) {
	t.Helper()
	rest, _ := impl.RestOfCandies(list)
	teacher, _ := impl.FromTeacher(list)
	if len(list)*rest != sumOf(list)+teacher || rest%2 != 0 {
		t.Errorf("%v comes to rest with %d each, and the teacher gives %d", list, rest, teacher)
	}
	wantCandy(t, "IsResting", repeated(rest, len(list)), true, true)
	for _, n := range w.trace[w.steps()] {
		if n != rest {
			t.Errorf("%v comes to rest at %v, not at %d", list, w.trace[w.steps()], rest)
		}
	}
}

func TestAllSmallCandies(t *testing.T) {
	for size, most := range map[int]int{2: 25, 3: 8, 4: 4, 5: 3, 6: 2, 8: 1} {
		eachList(size, most, func(list []int) { checkCandies(t, list) })
	}
}

func someCandies(next func(int) int, size int, kind int) []int {
	list := make([]int, size)
	for k := range list {
		switch kind {
		case 0:
			list[k] = next(201)
		case 1:
			list[k] = 200 * next(2)
		case 2:
			list[k] = 2 * next(101)
		default:
			list[k] = 2*next(100) + 1
		}
	}
	return list
}

func TestManyCandies(t *testing.T) {
	next := random(31)
	for k := range 280 {
		checkCandies(t, someCandies(next, 2+k%11, k%4))
	}
}

// The least number never becomes less, and none becomes greater than the greatest one made even: so none exceeds 200.
func TestStepsKeepTheLimits(t *testing.T) {
	next := random(32)
	for k := range 200 {
		list := someCandies(next, 2+k%11, k%4)
		least, most := slices.Min(list), slices.Max(list)+slices.Max(list)%2
		trace, _ := impl.CandyTrace(list)
		for _, had := range trace {
			if !impl.AreCandies(had) || slices.Min(had) < least || slices.Max(had) > most {
				t.Errorf("%v leads to %v", list, had)
			}
			least = slices.Min(had)
		}
	}
}

// Children may be told from any one on, to the left or to the right: the same candies come to the same ones.
func TestTurnsAndMirrorsKeepTheWay(t *testing.T) {
	next := random(33)
	for k := range 120 {
		list := someCandies(next, 2+k%11, k%4)
		steps, _ := impl.StepsToRest(list)
		given, _ := impl.GivenTo(list)
		for by := range len(list) {
			turned, ok := impl.TurnCircle(list, by)
			wantSame(t, fmt.Sprint("TurnCircle of ", list, by), []any{turned, ok}, slices.Concat(list[by:], list[:by]), true)
			wantCandy(t, "StepsToRest", turned, steps, true)
			wantCandy(t, "GivenTo", turned, slices.Concat(given[by:], given[:by]), true)
		}
		mirrored, ok := impl.MirrorCircle(list)
		left, _ := impl.PassLeft(mirrored)
		right, _ := impl.CandyStep(list)
		slices.Reverse(left)
		wantSame(t, fmt.Sprint("PassLeft of the mirrored ", list), []any{left, ok}, right, true)
		wantCandy(t, "MirrorCircle", mirrored, list, true)
	}
}

func TestSearchesAgainstAllLists(t *testing.T) {
	for children := 2; children <= 4; children++ {
		for most := range 9 {
			var slowest []int
			steps, counts := -1, map[int]int{}
			eachList(children, most, func(list []int) {
				w := wayOf(list)
				counts[w.rest()]++
				if w.steps() > steps {
					slowest, steps = list, w.steps()
				}
			})
			wantSlowest(t, children, most, slowest, steps)
			sum := 0
			for rest := range most + 4 {
				wantCount(t, children, most, rest, counts[rest])
				sum += counts[rest]
			}
			if float64(sum) != math.Pow(float64(most+1), float64(children)) {
				t.Errorf("%d lists of %d children with %d at most come to such rests", sum, children, most)
			}
		}
	}
}
