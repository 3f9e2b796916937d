package tests

import (
	"fmt"
	"testing"

	"loop.example/g01333/impl"
)

// candyCalls call the functions whose only argument is candies; all of them succeed for all candies.
func candyCalls() []heapCall {
	return []heapCall{
		{"AreCandies", func(l []int) []any { return []any{impl.AreCandies(l)} }},
		{"MadeEven", func(l []int) []any { a, ok := impl.MadeEven(l); return []any{a, ok} }},
		{"CandyStep", func(l []int) []any { a, ok := impl.CandyStep(l); return []any{a, ok} }},
		{"StepsToRest", func(l []int) []any { a, ok := impl.StepsToRest(l); return []any{a, ok} }},
		{"RestOfCandies", func(l []int) []any { a, ok := impl.RestOfCandies(l); return []any{a, ok} }},
		{"IsResting", func(l []int) []any { a, ok := impl.IsResting(l); return []any{a, ok} }},
		{"FromTeacher", func(l []int) []any { a, ok := impl.FromTeacher(l); return []any{a, ok} }},
		{"GivenTo", func(l []int) []any { a, ok := impl.GivenTo(l); return []any{a, ok} }},
		{"CandyTrace", func(l []int) []any { a, ok := impl.CandyTrace(l); return []any{a, ok} }},
		{"SpreadTrace", func(l []int) []any { a, ok := impl.SpreadTrace(l); return []any{a, ok} }},
		{"FirstLevel", func(l []int) []any { a, ok := impl.FirstLevel(l); return []any{a, ok} }},
		{"MirrorCircle", func(l []int) []any { a, ok := impl.MirrorCircle(l); return []any{a, ok} }},
		{"PassLeft", func(l []int) []any { a, ok := impl.PassLeft(l); return []any{a, ok} }},
	}
}

// numberedCalls call the functions that take a number of steps, or of children to turn by, with some of these.
func numberedCalls() []heapCall {
	var calls []heapCall
	for _, n := range []int{-1, 0, 1, 2, 11, 12, 1000000, 1000001} {
		calls = append(calls,
			heapCall{fmt.Sprint("CandiesAfter ", n), func(l []int) []any { a, ok := impl.CandiesAfter(l, n); return []any{a, ok} }},
			heapCall{fmt.Sprint("TurnCircle ", n), func(l []int) []any { a, ok := impl.TurnCircle(l, n); return []any{a, ok} }})
	}
	return calls
}

func wantCandy(t *testing.T, name string, list []int, want ...any) {
	t.Helper()
	wantSame(t, fmt.Sprint(name, " of ", list), callNamed(candyCalls(), name)(list), want...)
}

func wantAfter(t *testing.T, list []int, steps int, want []int) {
	t.Helper()
	after, ok := impl.CandiesAfter(list, steps)
	wantSame(t, fmt.Sprint("CandiesAfter of ", list, steps), []any{after, ok}, want, true)
}

func wantTurned(t *testing.T, list []int, by int, want []int) {
	t.Helper()
	turned, ok := impl.TurnCircle(list, by)
	wantSame(t, fmt.Sprint("TurnCircle of ", list, by), []any{turned, ok}, want, true)
}

func wantSlowest(t *testing.T, children int, most int, want []int, wantSteps int) {
	t.Helper()
	list, steps, ok := impl.SlowestCircle(children, most)
	wantSame(t, fmt.Sprint("SlowestCircle of ", children, most), []any{list, steps, ok}, want, wantSteps, true)
}

func wantCount(t *testing.T, children int, most int, rest int, want int) {
	t.Helper()
	count, ok := impl.CountByRest(children, most, rest)
	wantSame(t, fmt.Sprint("CountByRest of ", children, most, rest), []any{count, ok}, want, true)
}

// oneHasAll returns candies of which one child has all.
func oneHasAll(children int, child int, candies int) []int {
	list := make([]int, children)
	list[child] = candies
	return list
}
