package tests

import (
	"fmt"
	"testing"

	"loop.example/g01333/impl"
)

func cups(unit int, parts ...int) impl.Cups {
	return impl.Cups{Parts: parts, Unit: unit}
}

// A cupCall calls a function with cups, and collects the results.
type cupCall struct {
	name string
	call func(c impl.Cups) []any
}

// anyCupCalls succeed for all cups.
func anyCupCalls() []cupCall {
	return []cupCall{
		{"AreCups", func(c impl.Cups) []any { return []any{impl.AreCups(c)} }},
		{"MeanOfCups", func(c impl.Cups) []any { a, b, ok := impl.MeanOfCups(c); return []any{a, b, ok} }},
		{"SpreadOfCups", func(c impl.Cups) []any { a, b, ok := impl.SpreadOfCups(c); return []any{a, b, ok} }},
		{"AreAlike", func(c impl.Cups) []any { a, ok := impl.AreAlike(c); return []any{a, ok} }},
		{"IdleMixes", func(c impl.Cups) []any { a, ok := impl.IdleMixes(c); return []any{a, ok} }},
		{"CupsText", func(c impl.Cups) []any { a, ok := impl.CupsText(c); return []any{a, ok} }},
		{"PlayMixes", func(c impl.Cups) []any { a, ok := impl.PlayMixes(c, nil); return []any{a, ok} }},
	}
}

// contentCalls take a cup, and succeed for all cups of which it is one.
func contentCalls(cup int) []cupCall {
	return []cupCall{
		{fmt.Sprint("ContentOf ", cup), func(c impl.Cups) []any { a, b, ok := impl.ContentOf(c, cup); return []any{a, b, ok} }},
	}
}

// mixCalls take two cups; a mix may fail because Unit becomes too great.
func mixCalls(a int, b int) []cupCall {
	mixes := [][]int{{min(a, b), max(a, b)}}
	return []cupCall{
		{fmt.Sprint("MixTwo ", a, " and ", b), func(c impl.Cups) []any { m, ok := impl.MixTwo(c, a, b); return []any{m, ok} }},
		{fmt.Sprint("PlayMixes ", mixes), func(c impl.Cups) []any { m, ok := impl.PlayMixes(c, mixes); return []any{m, ok} }},
	}
}

// fewCupCalls take a cup and a number of mixes, and succeed for all few cups of which the cup is one.
func fewCupCalls(cup int, mixes int) []cupCall {
	with := fmt.Sprint(" ", cup, " with ", mixes)
	return []cupCall{
		{"GreatestIn" + with, func(c impl.Cups) []any { a, b, ok := impl.GreatestIn(c, cup, mixes); return []any{a, b, ok} }},
		{"LeastIn" + with, func(c impl.Cups) []any { a, b, ok := impl.LeastIn(c, cup, mixes); return []any{a, b, ok} }},
		{"FirstGreatest" + with, func(c impl.Cups) []any { a, ok := impl.FirstGreatest(c, cup, mixes); return []any{a, ok} }},
	}
}

// countCalls succeed for all few cups.
func countCalls(mixes int) []cupCall {
	return []cupCall{
		{fmt.Sprint("CountMixed ", mixes), func(c impl.Cups) []any { a, ok := impl.CountMixed(c, mixes); return []any{a, ok} }},
	}
}

// alikeCalls succeed for few cups that so many mixes can make alike.
func alikeCalls(most int) []cupCall {
	return []cupCall{
		{fmt.Sprint("FewestToAlike ", most), func(c impl.Cups) []any { a, ok := impl.FewestToAlike(c, most); return []any{a, ok} }},
		{fmt.Sprint("FirstToAlike ", most), func(c impl.Cups) []any { a, ok := impl.FirstToAlike(c, most); return []any{a, ok} }},
	}
}

func doubleCupCalls() []cupCall {
	return []cupCall{
		{"DoubleCups", func(c impl.Cups) []any { a, ok := impl.DoubleCups(c); return []any{a, ok} }},
	}
}

// searchCupCalls call all functions of few cups with a cup and a number of mixes.
func searchCupCalls(cup int, mixes int) []cupCall {
	calls := append(fewCupCalls(cup, mixes), countCalls(mixes)...)
	return append(calls, alikeCalls(mixes)...)
}

// allCupCalls call all functions that take cups; some of them fail for some cups.
func allCupCalls() []cupCall {
	calls := append(anyCupCalls(), doubleCupCalls()...)
	for _, cup := range []int{-1, 0, 1, 5, 6} {
		calls = append(calls, contentCalls(cup)...)
		calls = append(calls, mixCalls(cup, 1)...)
		calls = append(calls, mixCalls(1, cup)...)
	}
	for _, mixes := range []int{-1, 0, 1, 2, 4, 5, 6} {
		calls = append(calls, searchCupCalls(1, mixes)...)
	}
	return calls
}

func wantCups(t *testing.T, name string, c impl.Cups, want ...any) {
	t.Helper()
	for _, known := range append(anyCupCalls(), doubleCupCalls()...) {
		if known.name == name {
			wantSame(t, fmt.Sprint(name, " of ", c), known.call(c), want...)
			return
		}
	}
	panic("no function of cups is called " + name)
}

func wantContent(t *testing.T, c impl.Cups, cup int, want int, wantUnder int) {
	t.Helper()
	content, under, ok := impl.ContentOf(c, cup)
	wantSame(t, fmt.Sprint("ContentOf ", c, " in ", cup), []any{content, under, ok}, want, wantUnder, true)
}

// wantMixed tells the cups in both orders, and as a list of one mix.
func wantMixed(t *testing.T, c impl.Cups, a int, b int, want impl.Cups) {
	t.Helper()
	for _, call := range append(mixCalls(a, b), mixCalls(b, a)...) {
		wantSame(t, fmt.Sprint(call.name, " of ", c), call.call(c), want, true)
	}
}

func wantNotMixed(t *testing.T, c impl.Cups, a int, b int) {
	t.Helper()
	for _, call := range append(mixCalls(a, b), mixCalls(b, a)...) {
		wantZero(t, fmt.Sprint(call.name, " of ", c), call.call(c))
	}
}

func wantPlayed(t *testing.T, c impl.Cups, mixes [][]int, want impl.Cups) {
	t.Helper()
	played, ok := impl.PlayMixes(c, mixes)
	wantSame(t, fmt.Sprint("PlayMixes of ", c, mixes), []any{played, ok}, want, true)
}

func wantNotPlayed(t *testing.T, c impl.Cups, mixes [][]int) {
	t.Helper()
	played, ok := impl.PlayMixes(c, mixes)
	wantZero(t, fmt.Sprintf("PlayMixes of %v and %.60s", c, fmt.Sprint(mixes)), []any{played, ok})
}

func wantGreatest(t *testing.T, c impl.Cups, cup int, mixes int, want int, wantUnder int) {
	t.Helper()
	content, under, ok := impl.GreatestIn(c, cup, mixes)
	wantSame(t, fmt.Sprint("GreatestIn ", c, " in ", cup, " with ", mixes), []any{content, under, ok}, want, wantUnder, true)
}

func wantLeast(t *testing.T, c impl.Cups, cup int, mixes int, want int, wantUnder int) {
	t.Helper()
	content, under, ok := impl.LeastIn(c, cup, mixes)
	wantSame(t, fmt.Sprint("LeastIn ", c, " in ", cup, " with ", mixes), []any{content, under, ok}, want, wantUnder, true)
}

func wantFirstGreatest(t *testing.T, c impl.Cups, cup int, mixes int, want [][]int) {
	t.Helper()
	list, ok := impl.FirstGreatest(c, cup, mixes)
	wantSame(t, fmt.Sprint("FirstGreatest ", c, " in ", cup, " with ", mixes), []any{list, ok}, want, true)
}

func wantCountMixed(t *testing.T, c impl.Cups, mixes int, want int) {
	t.Helper()
	count, ok := impl.CountMixed(c, mixes)
	wantSame(t, fmt.Sprint("CountMixed ", c, " with ", mixes), []any{count, ok}, want, true)
}

// wantAlike holds for each most from the fewest mixes on, and below it there are none.
func wantAlike(t *testing.T, c impl.Cups, want [][]int) {
	t.Helper()
	for most := range len(want) {
		wantNeverAlike(t, c, most)
	}
	for most := len(want); most <= 5; most++ {
		fewest, ok := impl.FewestToAlike(c, most)
		wantSame(t, fmt.Sprint("FewestToAlike ", c, " up to ", most), []any{fewest, ok}, len(want), true)
		list, ok := impl.FirstToAlike(c, most)
		wantSame(t, fmt.Sprint("FirstToAlike ", c, " up to ", most), []any{list, ok}, want, true)
	}
}

func wantNeverAlike(t *testing.T, c impl.Cups, most int) {
	t.Helper()
	for _, call := range alikeCalls(most) {
		wantZero(t, fmt.Sprint(call.name, " of ", c), call.call(c))
	}
}
