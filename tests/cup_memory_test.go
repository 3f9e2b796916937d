package tests

import (
	"fmt"
	"reflect"
	"testing"

	"loop.example/g01333/impl"
)

// cupLists are Parts of all sorts; with each Unit some of them are cups.
func cupLists() [][]int {
	return [][]int{{}, {3}, {0, 0}, {2, 4}, {3, 0, 0}, {3, 3, 0}, {3, 6, 3}, {4, 0, 4, 0}, {4, 0, 0, 1}, {1, 1, 1}, {1, 2, 3, 4, 5, 6}, repeated(1, 6), repeated(1, 7), {1001, 0}, {-1, 1}}
}

// asHeapCalls calls with a list as the Parts of cups.
func asHeapCalls(calls []cupCall, unit int) []heapCall {
	var list []heapCall
	for _, c := range calls {
		call := c.call
		list = append(list, heapCall{fmt.Sprint(c.name, " with a Unit of ", unit), func(parts []int) []any { return call(cups(unit, parts...)) }})
	}
	return list
}

func TestCupsAndResultsAreApart(t *testing.T) {
	for _, unit := range []int{0, 1, 2, 4, 1 << 20} {
		checkApart(t, asHeapCalls(allCupCalls(), unit), cupLists())
	}
}

func TestDropsAndResultsAreApart(t *testing.T) {
	calls := []heapCall{{"CupsOf", func(drops []int) []any { c, ok := impl.CupsOf(drops); return []any{c, ok} }}}
	checkApart(t, calls, cupLists())
}

// A guarded list of mixes has marks behind it, and behind each of its mixes.
type guardedMixes struct {
	list [][]int
	all  [][]int
	want []any
}

func guardMixes(mixes [][]int, mark int) guardedMixes {
	var all [][]int
	for _, mix := range mixes {
		all = append(all, guard(mix, mark).list)
	}
	for range 4 {
		all = append(all, guard([]int{0, 1}, mark).list)
	}
	g := guardedMixes{list: all[:len(mixes)], all: all}
	g.want = copied(g.told())
	return g
}

// told has all mixes with what is behind them.
func (g guardedMixes) told() []any {
	var full [][]int
	for _, mix := range g.all {
		full = append(full, mix[:cap(mix)])
	}
	return []any{full}
}

func (g guardedMixes) check(t *testing.T, what string) {
	t.Helper()
	if !reflect.DeepEqual(g.told(), g.want) {
		t.Errorf("%s: the mixes or what is behind them became %v, were %v", what, g.told(), g.want)
	}
}

func TestMixesAndResultsAreApart(t *testing.T) {
	lists := [][][]int{nil, {{0, 1}}, {{0, 1}, {0, 2}}, {{1, 2}, {1, 2}, {0, 2}}, {{1, 0}}, {{0}}, {nil}, {{0, 1, 2}}, {{0, 9}}, turns(20), turns(50), turns(51)}
	for _, c := range []impl.Cups{cups(1, 3, 0, 0), cups(1, 0, 0), cups(2, 3, 1, 2), cups(1, 1, 2, 3, 4, 5, 6), cups(1<<20, 1, 0, 1), cups(2, 0, 0)} {
		for _, mixes := range lists {
			for _, mark := range []int{-9, 0, 1, 2} {
				checkMixesApart(t, c, mixes, mark)
			}
		}
	}
}

func checkMixesApart(t *testing.T, c impl.Cups, mixes [][]int, mark int) {
	t.Helper()
	what := fmt.Sprint("PlayMixes of ", c, mixes)
	first, firstOK := impl.PlayMixes(c, mixes)
	want := copied([]any{first, firstOK})
	parts, list := guard(c.Parts, mark), guardMixes(mixes, mark)
	played, ok := impl.PlayMixes(cups(c.Unit, parts.list...), list.list)
	wantSame(t, what+" with room behind", []any{played, ok}, want...)
	spoil([]any{played})
	parts.check(t, what)
	list.check(t, what)
	again, ok := impl.PlayMixes(cups(c.Unit, parts.list...), list.list)
	wantSame(t, what+" again", []any{again, ok}, want...)
}

func TestMixesOfResultsAreApart(t *testing.T) {
	for _, c := range []impl.Cups{cups(1, 4, 0, 0, 0), cups(1, 0, 1, 2, 6), cups(1, 5, 5, 5, 5), cups(1, 1, 2, 3, 6)} {
		for cup := range c.Parts {
			checkInnerApart(t, fmt.Sprint("FirstGreatest of ", c), func() [][]int { l, _ := impl.FirstGreatest(c, cup, 4); return l })
		}
		checkInnerApart(t, fmt.Sprint("FirstToAlike of ", c), func() [][]int { l, _ := impl.FirstToAlike(c, 5); return l })
		checkInnerApart(t, fmt.Sprint("IdleMixes of ", c), func() [][]int { l, _ := impl.IdleMixes(c); return l })
	}
}

func TestCupsOfNoListAreNew(t *testing.T) {
	for range 3 {
		c, ok := impl.ParseCups("3-6-3/4")
		wantSame(t, "ParseCups", []any{c, ok}, cups(4, 3, 6, 3), true)
		spoil([]any{c})
	}
}

// What is behind a list's length would change each of these results.
func TestSpareCapacityBehindCupsIsNotRead(t *testing.T) {
	row := []int{3, 0, 0, 1001, -1}
	wantCups(t, "AreCups", cups(1, row[:3]...), true)
	wantCups(t, "AreCups", cups(1, row[:4]...), false)
	wantCups(t, "AreCups", cups(1, row[:1]...), false)
	wantCups(t, "AreCups", cups(2, 0, 0, 1), true)
	wantCups(t, "AreCups", cups(2, []int{0, 0, 1}[:2]...), false)
	wantCups(t, "MeanOfCups", cups(1, row[:2]...), 3, 2, true)
	wantCups(t, "IdleMixes", cups(1, row[:2]...), [][]int{}, true)
	wantCups(t, "CupsText", cups(1, row[:2]...), "3-0/1", true)
	wantCountMixed(t, cups(1, row[:2]...), 4, 1)
	wantPlayed(t, cups(1, 3, 0), [][]int{{0, 1}, {0, 9}}[:1], cups(2, 3, 3))
	wantPlayed(t, cups(1, 3, 0), [][]int{[]int{0, 1, 1}[:2]}, cups(2, 3, 3))
	wantNotPlayed(t, cups(1, 3, 0), [][]int{[]int{0, 1}[:1]})
}

func TestCupCallsAtTheSameTime(t *testing.T) {
	checkAtTheSameTime(t, asHeapCalls(allCupCalls(), 2), []int{5, 1, 2, 7}, 3)
}

// A map is ranged over in an order that changes from call to call.
func TestCupCallsAgain(t *testing.T) {
	for _, c := range []impl.Cups{cups(1, 1, 2, 4, 8), cups(1, 4, 0, 0, 0), cups(1, 0, 0, 6, 6), cups(1, 1, 3, 1, 3)} {
		for _, call := range allCupCalls() {
			want := call.call(c)
			for range 10 {
				wantSame(t, fmt.Sprint(call.name, " of ", c), call.call(c), want...)
			}
		}
	}
}
