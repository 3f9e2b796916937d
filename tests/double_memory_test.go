package tests

import (
	"fmt"
	"slices"
	"testing"

	"loop.example/g01333/impl"
)

// fewLists are few heaps of all sorts, and lists that are none.
func fewLists() [][]int {
	return [][]int{{}, {7}, {5, 3}, {1, 2}, {0, 8}, {20, 20}, {3, 5, 7}, {2, 5, 9}, {2, 2, 2}, {0, 0, 2}, {1, 1, 1, 1}, {0, 0, 0, 40},
		{5, 2, 1, 3}, {41, 0}, {5, -1}, {0, 0}, {1, 1, 1, 1, 1}}
}

func TestFewHeapsAndResultsAreApart(t *testing.T) {
	checkApart(t, doubleCalls(), fewLists())
}

func TestDoublingListsAndResultsAreApart(t *testing.T) {
	lists := [][]impl.Doubling{{}, doublings("01"), doublings("10-01-01"), doublings("00"), {doubling(-1, 7)}, toAndFro(100), toAndFro(101)}
	checkPlaysApart(t, impl.PlayDoublings, fewLists(), lists, doubling(1, 0))
	for _, list := range lists {
		l := guard(list, doubling(0, 1))
		impl.DoublingsText(l.list)
		l.check(t, "DoublingsText")
	}
}

func TestDoublingsLeaveHeaps(t *testing.T) {
	for from := -1; from <= 4; from++ {
		for to := -1; to <= 4; to++ {
			h := guard([]int{4, 4, 7}, 4)
			impl.CanDouble(h.list, doubling(from, to))
			h.check(t, "CanDouble")
			behind, _ := impl.DoubleHeap(h.list, doubling(from, to))
			h.check(t, "DoubleHeap")
			spoil([]any{behind})
			h.check(t, "DoubleHeap, its result overwritten")
		}
	}
}

func TestGoalsAreLeft(t *testing.T) {
	for _, goal := range [][]int{{5, 3}, {0, 8}, {3, 5}, {-1, 9}, {5, 3, 0}, {5}, {}} {
		h, g := guard([]int{5, 3}, 0), guard(goal, -1)
		want, wantOK := impl.FewestToBecome([]int{5, 3}, slices.Clone(goal))
		steps, ok := impl.FewestToBecome(h.list, g.list)
		wantSame(t, fmt.Sprint("FewestToBecome of ", goal), []any{steps, ok}, want, wantOK)
		h.check(t, "FewestToBecome")
		g.check(t, "FewestToBecome, its goal")
	}
}

func TestInnerListsAreApart(t *testing.T) {
	for _, heaps := range [][]int{{2, 6}, {2, 2, 2}, {0, 0, 0, 40}, {8, 8, 8, 8}} {
		checkInnerApart(t, fmt.Sprint("HeapsBefore of ", heaps), func() [][]int {
			lists, _ := impl.HeapsBefore(heaps)
			return lists
		})
	}
}

func TestParsedDoublingsAreNew(t *testing.T) {
	for range 3 {
		list, ok := impl.ParseDoublings("10-01-01")
		wantSame(t, "ParseDoublings", []any{list, ok}, doublings("10-01-01"), true)
		spoil([]any{list})
	}
}

// What is behind a list's length would change each of these results.
func TestSpareCapacityBehindFewHeapsIsNotRead(t *testing.T) {
	row := []int{5, 3, 3, 29, 1}
	wantDouble(t, "DoublingsOf", row[:2], doublings("01"), true)
	wantDouble(t, "FirstToEmpty", row[:2], doublings("01-10-01"), true)
	wantDouble(t, "HeapsBefore", row[:2], [][]int{}, true)
	wantDouble(t, "QuotientDoublings", row[:3], doublings("21"), true)
	wantDouble(t, "AreFewHeaps", row[:4], true)
	wantDouble(t, "AreFewHeaps", row, false)
	list := []impl.Doubling{doubling(0, 1), doubling(0, 0)}
	text, ok := impl.DoublingsText(list[:1])
	wantSame(t, "DoublingsText", []any{text, ok}, "01", true)
}

func TestDoublingCallsAtTheSameTime(t *testing.T) {
	checkAtTheSameTime(t, doubleCalls(), []int{2, 5, 9}, 20)
}
