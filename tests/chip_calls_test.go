package tests

import (
	"fmt"
	"testing"

	"loop.example/g01333/impl"
)

// chipCalls call the functions whose only argument is chips; all of them succeed for all chips.
func chipCalls() []heapCall {
	return []heapCall{
		{"AreChips", func(l []int) []any { return []any{impl.AreChips(l)} }},
		{"FireAll", func(l []int) []any { a, lost, ok := impl.FireAll(l); return []any{a, lost, ok} }},
		{"RestOfChips", func(l []int) []any { a, ok := impl.RestOfChips(l); return []any{a, ok} }},
		{"FiringsOf", func(l []int) []any { a, ok := impl.FiringsOf(l); return []any{a, ok} }},
		{"LostChips", func(l []int) []any { left, right, ok := impl.LostChips(l); return []any{left, right, ok} }},
		{"RoundsToRest", func(l []int) []any { a, ok := impl.RoundsToRest(l); return []any{a, ok} }},
		{"FireInOrder", func(l []int) []any { a, ok := impl.FireInOrder(l, nil); return []any{a, ok} }},
		{"ClassOfChips", func(l []int) []any { a, ok := impl.ClassOfChips(l); return []any{a, ok} }},
		{"AreSameClass", func(l []int) []any { a, ok := impl.AreSameClass(l, l); return []any{a, ok} }},
		{"DoComeAgain", func(l []int) []any { a, ok := impl.DoComeAgain(l); return []any{a, ok} }},
		{"MirrorChips", func(l []int) []any { a, ok := impl.MirrorChips(l); return []any{a, ok} }},
		{"ChipsText", func(l []int) []any { a, ok := impl.ChipsText(l); return []any{a, ok} }},
	}
}

// placeCalls call the functions that take a place, with one.
func placeCalls(place int) []heapCall {
	return []heapCall{
		{fmt.Sprint("CanFire at ", place), func(l []int) []any { a, ok := impl.CanFire(l, place); return []any{a, ok} }},
		{fmt.Sprint("FireAt ", place), func(l []int) []any { a, lost, ok := impl.FireAt(l, place); return []any{a, lost, ok} }},
		{fmt.Sprint("AddChip at ", place), func(l []int) []any { a, ok := impl.AddChip(l, place); return []any{a, ok} }},
	}
}

// allChipCalls call all functions whose first argument is chips; some of them fail for some chips.
func allChipCalls() []heapCall {
	calls := chipCalls()
	for _, place := range []int{-1, 0, 1, 2, 19, 20} {
		calls = append(calls, placeCalls(place)...)
	}
	for _, order := range [][]int{{0}, {1, 0, 1}, {-1}, {20}, repeated(0, 30), repeated(0, 101)} {
		calls = append(calls, heapCall{fmt.Sprint("FireInOrder ", order), func(l []int) []any { a, ok := impl.FireInOrder(l, order); return []any{a, ok} }})
	}
	return append(calls, heapCall{"AddComing", func(l []int) []any { a, ok := impl.AddComing(l, l); return []any{a, ok} }})
}

func wantChip(t *testing.T, name string, list []int, want ...any) {
	t.Helper()
	wantSame(t, fmt.Sprint(name, " of ", list), callNamed(chipCalls(), name)(list), want...)
}

func wantCanFire(t *testing.T, list []int, place int, want bool) {
	t.Helper()
	can, ok := impl.CanFire(list, place)
	wantSame(t, fmt.Sprint("CanFire of ", list, " at ", place), []any{can, ok}, want, true)
}

func wantFired(t *testing.T, list []int, place int, want []int, wantLost int) {
	t.Helper()
	behind, lost, ok := impl.FireAt(list, place)
	wantSame(t, fmt.Sprint("FireAt of ", list, " at ", place), []any{behind, lost, ok}, want, wantLost, true)
}

func wantNotFired(t *testing.T, list []int, place int) {
	t.Helper()
	behind, lost, ok := impl.FireAt(list, place)
	wantZero(t, fmt.Sprint("FireAt of ", list, " at ", place), []any{behind, lost, ok})
}

func wantInOrder(t *testing.T, list []int, order []int, want []int) {
	t.Helper()
	behind, ok := impl.FireInOrder(list, order)
	wantSame(t, fmt.Sprint("FireInOrder of ", list, " in ", order), []any{behind, ok}, want, true)
}

func wantNoOrder(t *testing.T, list []int, order []int) {
	t.Helper()
	behind, ok := impl.FireInOrder(list, order)
	wantZero(t, fmt.Sprintf("FireInOrder of %v in %.60s", list, fmt.Sprint(order)), []any{behind, ok})
}

func wantAdded(t *testing.T, list []int, place int, want []int) {
	t.Helper()
	behind, ok := impl.AddChip(list, place)
	wantSame(t, fmt.Sprint("AddChip to ", list, " at ", place), []any{behind, ok}, want, true)
}

func wantSameClass(t *testing.T, a []int, b []int, want bool) {
	t.Helper()
	same, ok := impl.AreSameClass(a, b)
	wantSame(t, fmt.Sprint("AreSameClass of ", a, b), []any{same, ok}, want, true)
}

func wantComing(t *testing.T, places int, class int, want []int) {
	t.Helper()
	list, ok := impl.ComingChips(places, class)
	wantSame(t, fmt.Sprint("ComingChips of ", places, class), []any{list, ok}, want, true)
}

func wantSum(t *testing.T, a []int, b []int, want []int) {
	t.Helper()
	sum, ok := impl.AddComing(a, b)
	wantSame(t, fmt.Sprint("AddComing of ", a, b), []any{sum, ok}, want, true)
}

func wantNoSum(t *testing.T, a []int, b []int) {
	t.Helper()
	sum, ok := impl.AddComing(a, b)
	wantZero(t, fmt.Sprint("AddComing of ", a, b), []any{sum, ok})
}

func wantNeutral(t *testing.T, places int, want []int) {
	t.Helper()
	list, ok := impl.NeutralChips(places)
	wantSame(t, fmt.Sprint("NeutralChips of ", places), []any{list, ok}, want, true)
}

// allBut returns chips of which each place has one but one place, which has none.
func allBut(places int, empty int) []int {
	list := repeated(1, places)
	list[empty] = 0
	return list
}
