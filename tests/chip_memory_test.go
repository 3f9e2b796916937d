package tests

import (
	"fmt"
	"runtime"
	"slices"
	"testing"

	"loop.example/g01333/impl"
)

// chipLists are chips of all sorts, and lists that are none.
func chipLists() [][]int {
	return [][]int{{}, {0}, {1}, {2}, {60}, {61}, {-1}, {2, 2}, {0, 3, 0}, {0, 4, 0}, {1, 0, 1}, {1, 1, 1}, {1, 2, 1}, {5, -1, 2},
		repeated(0, 20), repeated(1, 20), repeated(60, 20), repeated(1, 21), oneHasAll(20, 7, 60), allBut(20, 3)}
}

func TestChipsAndResultsAreApart(t *testing.T) {
	checkApart(t, allChipCalls(), chipLists())
}

func TestOrdersAndResultsAreApart(t *testing.T) {
	orders := [][]int{{}, {0}, {1, 1, 0, 2, 1}, {19, 18}, {-1}, {20}, repeated(0, 100), repeated(0, 101)}
	checkPlaysApart(t, impl.FireInOrder, chipLists(), orders, 1)
}

// checkTwoApart calls with marks behind both lists, and overwrites results.
func checkTwoApart(t *testing.T, name string, a []int, b []int, call func(a []int, b []int) []any) {
	t.Helper()
	what := fmt.Sprint(name, " of ", a, " and ", b)
	want := copied(call(slices.Clone(a), slices.Clone(b)))
	for _, mark := range []int{-9, 0, 1, 60} {
		x, y := guard(a, mark), guard(b, mark)
		first := call(x.list, y.list)
		wantSame(t, what+" with room behind", first, want...)
		spoil(first)
		x.check(t, what+", the first list")
		y.check(t, what+", the second list")
		wantSame(t, what+" once more", call(x.list, y.list), want...)
	}
	same := guard(a, 1)
	spoil(call(same.list, same.list))
	same.check(t, what+", one list twice")
}

func TestTwoListsAndResultsAreApart(t *testing.T) {
	for _, a := range chipLists() {
		for _, b := range chipLists() {
			checkTwoApart(t, "AddComing", a, b, func(a []int, b []int) []any { sum, ok := impl.AddComing(a, b); return []any{sum, ok} })
			checkTwoApart(t, "AreSameClass", a, b, func(a []int, b []int) []any { same, ok := impl.AreSameClass(a, b); return []any{same, ok} })
		}
	}
}

// What is behind a list's length would change each of these results.
func TestSpareCapacityBehindChipsIsNotRead(t *testing.T) {
	row := []int{1, 0, 2, 61, -1}
	wantChip(t, "AreChips", row[:3], true)
	wantChip(t, "AreChips", row[:4], false)
	wantChip(t, "RestOfChips", row[:2], []int{1, 0}, true)
	wantChip(t, "RoundsToRest", row[:2], 0, true)
	wantChip(t, "FiringsOf", row[:2], []int{0, 0}, true)
	wantChip(t, "LostChips", row[:3], 0, 1, true)
	wantChip(t, "FireAll", row[:2], []int{1, 0}, 0, true)
	wantChip(t, "ClassOfChips", row[:2], 1, true)
	wantChip(t, "DoComeAgain", row[:2], true, true)
	wantChip(t, "MirrorChips", row[:2], []int{0, 1}, true)
	wantChip(t, "ChipsText", row[:3], "1.0.2", true)
}

func TestChipsOfNoListAreNew(t *testing.T) {
	for range 3 {
		list, ok := impl.ParseChips("1.0.60")
		wantSame(t, "ParseChips", []any{list, ok}, []int{1, 0, 60}, true)
		spoil([]any{list})
		list, ok = impl.ComingChips(3, 2)
		wantSame(t, "ComingChips", []any{list, ok}, []int{1, 1, 1}, true)
		spoil([]any{list})
		list, ok = impl.NeutralChips(3)
		wantSame(t, "NeutralChips", []any{list, ok}, []int{1, 0, 1}, true)
		spoil([]any{list})
	}
}

func TestChipCallsAtTheSameTime(t *testing.T) {
	checkAtTheSameTime(t, allChipCalls(), []int{0, 60, 3, 0, 17}, 20)
}

// Goroutines that a call starts have ended their work behind it, and go soon.
func TestChipCallsLeaveNoGoroutines(t *testing.T) {
	before := runtime.NumGoroutine()
	for range 20 {
		for _, c := range allChipCalls() {
			c.call(repeated(60, 20))
			c.call(allBut(20, 4))
		}
	}
	for range 100000 {
		if runtime.NumGoroutine() <= before {
			return
		}
		runtime.Gosched()
	}
	t.Errorf("%d goroutines are left, there were %d", runtime.NumGoroutine(), before)
}
