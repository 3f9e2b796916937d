package tests

import (
	"fmt"
	"strconv"
	"strings"
	"testing"

	"loop.example/g01333/impl"
)

// A splitCall calls a function with a rule and heaps, and collects the results.
type splitCall struct {
	name string
	call func(rule int, heaps []int) []any
}

// splitCalls succeed for all heaps by all rules.
func splitCalls() []splitCall {
	return []splitCall{
		{"SplitsOf", func(r int, h []int) []any { a, ok := impl.SplitsOf(r, h); return []any{a, ok} }},
		{"IsSplitOver", func(r int, h []int) []any { a, ok := impl.IsSplitOver(r, h); return []any{a, ok} }},
		{"ValueOfHeaps", func(r int, h []int) []any { a, ok := impl.ValueOfHeaps(r, h); return []any{a, ok} }},
		{"DoesFirstWin", func(r int, h []int) []any { a, ok := impl.DoesFirstWin(r, h); return []any{a, ok} }},
		{"WinningSplits", func(r int, h []int) []any { a, ok := impl.WinningSplits(r, h); return []any{a, ok} }},
		{"PlaySplits", func(r int, h []int) []any { a, ok := impl.PlaySplits(r, h, nil); return []any{a, ok} }},
	}
}

// allSplitCalls are these, and those that fail for some heaps.
func allSplitCalls() []splitCall {
	return append(splitCalls(),
		splitCall{"BestPlay", func(r int, h []int) []any { a, ok := impl.BestPlay(r, h); return []any{a, ok} }},
		splitCall{"MakeSplit", func(r int, h []int) []any { a, ok := impl.MakeSplit(r, h, split(0, 2)); return []any{a, ok} }},
		splitCall{"PlaySplits of 2", func(r int, h []int) []any {
			a, ok := impl.PlaySplits(r, h, splits("0:2,0:2"))
			return []any{a, ok}
		}})
}

// A singleCall calls a function with a rule and one number of stones.
type singleCall struct {
	name string
	most int
	call func(rule int, heap int) []any
}

// singleCalls succeed for all numbers from 1 up to their most, by all rules.
func singleCalls() []singleCall {
	return []singleCall{
		{"ValueOfSplit", 60, func(r int, h int) []any { a, ok := impl.ValueOfSplit(r, h); return []any{a, ok} }},
		{"LosingHeaps", 60, func(r int, h int) []any { a, ok := impl.LosingHeaps(r, h); return []any{a, ok} }},
		{"LongestSplit", 60, func(r int, h int) []any { a, ok := impl.LongestSplit(r, h); return []any{a, ok} }},
		{"ShortestSplit", 60, func(r int, h int) []any { a, ok := impl.ShortestSplit(r, h); return []any{a, ok} }},
		{"CountSplitGames", 14, func(r int, h int) []any { a, ok := impl.CountSplitGames(r, h); return []any{a, ok} }},
		{"EndsOfSplit", 14, func(r int, h int) []any { a, ok := impl.EndsOfSplit(r, h); return []any{a, ok} }},
	}
}

// anyRuleCalls succeed for all numbers up to their most too, whatever the rule.
func anyRuleCalls() []singleCall {
	return []singleCall{
		{"FullScore", 60, func(_ int, h int) []any { a, ok := impl.FullScore(h); return []any{a, ok} }},
		{"ScoreOfSplits", 60, func(_ int, h int) []any { a, ok := impl.ScoreOfSplits(h, nil); return []any{a, ok} }},
	}
}

// byRule calls with a list as heaps, by one rule.
func byRule(rule int, calls []splitCall) []heapCall {
	var list []heapCall
	for _, c := range calls {
		list = append(list, heapCall{fmt.Sprint(c.name, " by ", rule), func(heaps []int) []any { return c.call(rule, heaps) }})
	}
	return list
}

func wantSplit(t *testing.T, name string, rule int, heaps []int, want any) {
	t.Helper()
	for _, c := range allSplitCalls() {
		if c.name == name {
			wantSame(t, fmt.Sprint(name, " of ", heaps, " by ", rule), c.call(rule, heaps), want, true)
			return
		}
	}
	panic("no function of split heaps is called " + name)
}

func wantSingle(t *testing.T, name string, rule int, heap int, want any) {
	t.Helper()
	for _, c := range append(singleCalls(), anyRuleCalls()...) {
		if c.name == name {
			wantSame(t, fmt.Sprint(name, " of ", heap, " by ", rule), c.call(rule, heap), want, true)
			return
		}
	}
	panic("no function of one split heap is called " + name)
}

// wantMade asks all functions that make splits.
func wantMade(t *testing.T, rule int, heaps []int, s impl.Split, want []int) {
	t.Helper()
	what := fmt.Sprint(heaps, " and ", s, " by ", rule)
	behind, ok := impl.MakeSplit(rule, heaps, s)
	wantSame(t, "MakeSplit of "+what, []any{behind, ok}, want, true)
	behind, ok = impl.PlaySplits(rule, heaps, []impl.Split{s})
	wantSame(t, "PlaySplits of "+what, []any{behind, ok}, want, true)
}

func wantNotMade(t *testing.T, rule int, heaps []int, s impl.Split) {
	t.Helper()
	what := fmt.Sprintf("%.60s and %v by %d", fmt.Sprint(heaps), s, rule)
	behind, ok := impl.MakeSplit(rule, heaps, s)
	wantZero(t, "MakeSplit of "+what, []any{behind, ok})
	behind, ok = impl.PlaySplits(rule, heaps, []impl.Split{s})
	wantZero(t, "PlaySplits of "+what, []any{behind, ok})
}

func wantSplitsPlayed(t *testing.T, rule int, heaps []int, list []impl.Split, want []int) {
	t.Helper()
	played, ok := impl.PlaySplits(rule, heaps, list)
	wantSame(t, fmt.Sprint("PlaySplits of ", heaps, " and ", list, " by ", rule), []any{played, ok}, want, true)
}

func wantSplitsNotPlayed(t *testing.T, rule int, heaps []int, list []impl.Split) {
	t.Helper()
	played, ok := impl.PlaySplits(rule, heaps, list)
	wantZero(t, fmt.Sprintf("PlaySplits of %v and %.60s by %d", heaps, fmt.Sprint(list), rule), []any{played, ok})
}

func wantScore(t *testing.T, heap int, list []impl.Split, want int) {
	t.Helper()
	score, ok := impl.ScoreOfSplits(heap, list)
	wantSame(t, fmt.Sprint("ScoreOfSplits of ", heap, " and ", list), []any{score, ok}, want, true)
}

func wantNoScore(t *testing.T, heap int, list []impl.Split) {
	t.Helper()
	score, ok := impl.ScoreOfSplits(heap, list)
	wantZero(t, fmt.Sprintf("ScoreOfSplits of %d and %.60s", heap, fmt.Sprint(list)), []any{score, ok})
}

func split(heap int, part int) impl.Split {
	return impl.Split{Heap: heap, Part: part}
}

// splits reads a text such as 0:2,1:1 without the program.
func splits(text string) []impl.Split {
	list := []impl.Split{}
	for word := range strings.SplitSeq(text, ",") {
		heap, part, isSplit := strings.Cut(word, ":")
		if !isSplit {
			continue
		}
		h, errHeap := strconv.Atoi(heap)
		p, errPart := strconv.Atoi(part)
		if errHeap != nil || errPart != nil {
			panic("no text of splits: " + text)
		}
		list = append(list, split(h, p))
	}
	return list
}

// onesFrom returns splits that take one stone after the other from the heap 0.
func onesFrom(times int) []impl.Split {
	list := make([]impl.Split, times)
	for k := range list {
		list[k] = split(0, 1)
	}
	return list
}
