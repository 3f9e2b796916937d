package tests

import "loop.example/g01333/impl"

// A heapCall calls a function whose only argument is heaps, and collects the results.
type heapCall struct {
	name string
	call func(heaps []int) []any
}

// anyHeapsCalls succeed for all heaps.
func anyHeapsCalls() []heapCall {
	return []heapCall{
		{"AreHeaps", func(h []int) []any { return []any{impl.AreHeaps(h)} }},
		{"StonesOf", func(h []int) []any { a, ok := impl.StonesOf(h); return []any{a, ok} }},
		{"CanBeEqual", func(h []int) []any { a, ok := impl.CanBeEqual(h); return []any{a, ok} }},
		{"EqualShare", func(h []int) []any { a, b, ok := impl.EqualShare(h); return []any{a, b, ok} }},
		{"SpreadOf", func(h []int) []any { a, ok := impl.SpreadOf(h); return []any{a, ok} }},
		{"HeapsText", func(h []int) []any { a, ok := impl.HeapsText(h); return []any{a, ok} }},
		{"PlayMoves", func(h []int) []any { a, ok := impl.PlayMoves(h, nil); return []any{a, ok} }},
	}
}

// equalCalls succeed only for heaps that can be made equal.
func equalCalls() []heapCall {
	return []heapCall{
		{"StonesToMove", func(h []int) []any { a, ok := impl.StonesToMove(h); return []any{a, ok} }},
		{"FewestMoves", func(h []int) []any { a, ok := impl.FewestMoves(h); return []any{a, ok} }},
		{"SharingMoves", func(h []int) []any { a, ok := impl.SharingMoves(h); return []any{a, ok} }},
		{"LineDistance", func(h []int) []any { a, ok := impl.LineDistance(h); return []any{a, ok} }},
		{"LineFlows", func(h []int) []any { a, ok := impl.LineFlows(h); return []any{a, ok} }},
		{"RingDistance", func(h []int) []any { a, ok := impl.RingDistance(h); return []any{a, ok} }},
		{"RingFlows", func(h []int) []any { a, ok := impl.RingFlows(h); return []any{a, ok} }},
		{"MostCarried", func(h []int) []any { a, ok := impl.MostCarried(h); return []any{a, ok} }},
	}
}

func heapCalls() []heapCall {
	return append(anyHeapsCalls(), equalCalls()...)
}

func heapCallNamed(name string) func([]int) []any {
	return callNamed(heapCalls(), name)
}

func callNamed(calls []heapCall, name string) func([]int) []any {
	for _, c := range calls {
		if c.name == name {
			return c.call
		}
	}
	panic("no function of heaps is called " + name)
}
