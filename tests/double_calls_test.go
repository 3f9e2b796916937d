package tests

import (
	"fmt"
	"testing"

	"loop.example/g01333/impl"
)

// fewCalls call the functions whose only argument is few heaps; those of emptyCalls succeed only for some of these.
func fewCalls() []heapCall {
	return []heapCall{
		{"AreFewHeaps", func(h []int) []any { return []any{impl.AreFewHeaps(h)} }},
		{"DoublingsOf", func(h []int) []any { a, ok := impl.DoublingsOf(h); return []any{a, ok} }},
		{"CountReached", func(h []int) []any { a, ok := impl.CountReached(h); return []any{a, ok} }},
		{"HeapsBefore", func(h []int) []any { a, ok := impl.HeapsBefore(h); return []any{a, ok} }},
		{"PlayDoublings", func(h []int) []any { a, ok := impl.PlayDoublings(h, nil); return []any{a, ok} }},
		{"FewestToBecome", func(h []int) []any { a, ok := impl.FewestToBecome(h, h); return []any{a, ok} }},
	}
}

func emptyCalls() []heapCall {
	return []heapCall{
		{"FewestToEmpty", func(h []int) []any { a, ok := impl.FewestToEmpty(h); return []any{a, ok} }},
		{"FirstToEmpty", func(h []int) []any { a, ok := impl.FirstToEmpty(h); return []any{a, ok} }},
		{"QuotientDoublings", func(h []int) []any { a, ok := impl.QuotientDoublings(h); return []any{a, ok} }},
	}
}

func doubleCalls() []heapCall {
	return append(fewCalls(), emptyCalls()...)
}

func wantDouble(t *testing.T, name string, heaps []int, want ...any) {
	t.Helper()
	wantSame(t, fmt.Sprint(name, " of ", heaps), callNamed(doubleCalls(), name)(heaps), want...)
}

// A pairCall calls a function of a pair, and collects the results.
type pairCall struct {
	name string
	call func(a int, b int) []any
}

func pairCalls() []pairCall {
	return []pairCall{
		{"PairStep", func(a int, b int) []any { x, y, ok := impl.PairStep(a, b); return []any{x, y, ok} }},
		{"PairAfter 0", func(a int, b int) []any { x, y, ok := impl.PairAfter(a, b, 0); return []any{x, y, ok} }},
		{"PairAfter 7", func(a int, b int) []any { x, y, ok := impl.PairAfter(a, b, 7); return []any{x, y, ok} }},
		{"PairLead", func(a int, b int) []any { n, ok := impl.PairLead(a, b); return []any{n, ok} }},
		{"PairPeriod", func(a int, b int) []any { n, ok := impl.PairPeriod(a, b); return []any{n, ok} }},
		{"DoesPairEmpty", func(a int, b int) []any { is, ok := impl.DoesPairEmpty(a, b); return []any{is, ok} }},
		{"PairStepsToEmpty", func(a int, b int) []any { n, ok := impl.PairStepsToEmpty(a, b); return []any{n, ok} }},
	}
}

func wantPair(t *testing.T, name string, a int, b int, want ...any) {
	t.Helper()
	for _, c := range pairCalls() {
		if c.name == name {
			wantSame(t, fmt.Sprint(name, " of ", a, ", ", b), c.call(a, b), want...)
			return
		}
	}
	t.Fatal("no function of a pair is called " + name)
}

// doublings reads a text such as 10-01 without the program: numbers beyond the digits it knows are none of its texts.
func doublings(text string) []impl.Doubling {
	list := []impl.Doubling{}
	for k := 0; k < len(text); k += 3 {
		list = append(list, doubling(int(text[k]-'0'), int(text[k+1]-'0')))
	}
	return list
}

func doubling(from int, to int) impl.Doubling {
	return impl.Doubling{From: from, To: to}
}

// toAndFro returns doublings of the heaps 1 and 2, which become 2 and 1 and 1 and 2 again.
func toAndFro(size int) []impl.Doubling {
	list := []impl.Doubling{}
	for k := range size {
		list = append(list, doubling(1-k%2, k%2))
	}
	return list
}
