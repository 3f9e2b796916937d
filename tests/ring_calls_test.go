package tests

import (
	"fmt"
	"testing"

	"loop.example/g01333/impl"
)

// ringCalls call the functions whose only argument is a ring and that succeed for all rings.
func ringCalls() []heapCall {
	return []heapCall{
		{"IsRing", func(r []int) []any { return []any{impl.IsRing(r)} }},
		{"RingStep", func(r []int) []any { a, ok := impl.RingStep(r); return []any{a, ok} }},
		{"LeadOfRing", func(r []int) []any { a, ok := impl.LeadOfRing(r); return []any{a, ok} }},
		{"PeriodOfRing", func(r []int) []any { a, ok := impl.PeriodOfRing(r); return []any{a, ok} }},
		{"CycleOfRing", func(r []int) []any { a, ok := impl.CycleOfRing(r); return []any{a, ok} }},
		{"ComesToZero", func(r []int) []any { a, ok := impl.ComesToZero(r); return []any{a, ok} }},
		{"GreatestAtLast", func(r []int) []any { a, ok := impl.GreatestAtLast(r); return []any{a, ok} }},
		{"MirrorRing", func(r []int) []any { a, ok := impl.MirrorRing(r); return []any{a, ok} }},
	}
}

// toZeroCalls fail for rings that never come to zero.
func toZeroCalls() []heapCall {
	return []heapCall{
		{"StepsToZero", func(r []int) []any { a, ok := impl.StepsToZero(r); return []any{a, ok} }},
	}
}

// beforeCalls fail for rings with a number greater than 100.
func beforeCalls() []heapCall {
	return []heapCall{
		{"RingsBefore", func(r []int) []any { a, ok := impl.RingsBefore(r); return []any{a, ok} }},
		{"CountRingsBefore", func(r []int) []any { a, ok := impl.CountRingsBefore(r); return []any{a, ok} }},
		{"HasRingBefore", func(r []int) []any { a, ok := impl.HasRingBefore(r); return []any{a, ok} }},
	}
}

// ringByCalls call the functions that take a number with a ring, with some numbers.
func ringByCalls(numbers ...int) []heapCall {
	var calls []heapCall
	for _, n := range numbers {
		calls = append(calls,
			heapCall{fmt.Sprint("RingAfter ", n), func(r []int) []any { a, ok := impl.RingAfter(r, n); return []any{a, ok} }},
			heapCall{fmt.Sprint("LiftRing ", n), func(r []int) []any { a, ok := impl.LiftRing(r, n); return []any{a, ok} }},
			heapCall{fmt.Sprint("ScaleRing ", n), func(r []int) []any { a, ok := impl.ScaleRing(r, n); return []any{a, ok} }},
			heapCall{fmt.Sprint("TurnRing ", n), func(r []int) []any { a, ok := impl.TurnRing(r, n); return []any{a, ok} }})
	}
	return calls
}

func oneRingCalls() []heapCall {
	return append(append(ringCalls(), toZeroCalls()...), beforeCalls()...)
}

func allRingCalls() []heapCall {
	return append(oneRingCalls(), ringByCalls(-1, 0, 1, 2, 9, 10, 1000, 1001, 1000000000, 1000000001)...)
}

func wantRing(t *testing.T, name string, ring []int, want ...any) {
	t.Helper()
	wantSame(t, fmt.Sprint(name, " of ", ring), callNamed(oneRingCalls(), name)(ring), want...)
}

// wantRingBy asks a function that takes a number as well.
func wantRingBy(t *testing.T, name string, ring []int, by int, want ...any) {
	t.Helper()
	call := callNamed(ringByCalls(by), fmt.Sprint(name, " ", by))
	wantSame(t, fmt.Sprint(name, " ", by, " of ", ring), call(ring), want...)
}

func wantNoRingBy(t *testing.T, name string, ring []int, by int) {
	t.Helper()
	wantRingBy(t, name, ring, by, []int{}, false)
}

// wantWay tells of the lead, the period and the rings that come again.
func wantWay(t *testing.T, ring []int, lead int, cycle ...[]int) {
	t.Helper()
	wantRing(t, "LeadOfRing", ring, lead, true)
	wantRing(t, "PeriodOfRing", ring, len(cycle), true)
	wantRing(t, "CycleOfRing", ring, cycle, true)
}

// wantToZero asks all functions of zero for a ring that comes to zero.
func wantToZero(t *testing.T, ring []int, steps int) {
	t.Helper()
	wantRing(t, "StepsToZero", ring, steps, true)
	wantRing(t, "ComesToZero", ring, true, true)
	wantRing(t, "GreatestAtLast", ring, 0, true)
	wantWay(t, ring, steps, repeated(0, len(ring)))
}

// wantNeverZero asks all functions of zero for a ring that never comes to zero, by the greatest number that stays.
func wantNeverZero(t *testing.T, ring []int, greatest int) {
	t.Helper()
	wantRing(t, "StepsToZero", ring, 0, false)
	wantRing(t, "ComesToZero", ring, false, true)
	wantRing(t, "GreatestAtLast", ring, greatest, true)
}

// wantBefore asks all functions of rings before.
func wantBefore(t *testing.T, ring []int, before ...[]int) {
	t.Helper()
	wantRing(t, "RingsBefore", ring, before, true)
	wantRing(t, "CountRingsBefore", ring, len(before), true)
	wantRing(t, "HasRingBefore", ring, len(before) > 0, true)
}

func wantLongest(t *testing.T, size int, period int, cycling int) {
	t.Helper()
	longest, ok := impl.LongestPeriod(size)
	wantSame(t, fmt.Sprint("LongestPeriod of ", size), []any{longest, ok}, period, true)
	count, ok := impl.CountCycling(size)
	wantSame(t, fmt.Sprint("CountCycling of ", size), []any{count, ok}, cycling, true)
}

func wantSlowestRing(t *testing.T, size int, most int, want []int, wantSteps int) {
	t.Helper()
	ring, steps, ok := impl.SlowestToZero(size, most)
	wantSame(t, fmt.Sprint("SlowestToZero of ", size, most), []any{ring, steps, ok}, want, wantSteps, true)
}
