package tests

import (
	"fmt"
	"runtime"
	"testing"

	"loop.example/g01333/impl"
)

// splitLists are heaps of all sorts, and lists that are none.
func splitLists() [][]int {
	return [][]int{{}, {1}, {2}, {3}, {4}, {60}, {61}, {0}, {-1}, {5, 5}, {7, 8, 15}, {2, 3, 4}, {1, -1, 2}, {1, 60, 1}, repeated(1, 8), repeated(4, 8), repeated(9, 8), repeated(1, 9)}
}

// listsOfSplits are plays of some of these, and lists that cannot be made.
func listsOfSplits() [][]impl.Split {
	return [][]impl.Split{{}, splits("0:1"), splits("0:2"), splits("0:2,0:2"), splits("2:3,1:2,3:1"), splits("0:0"), splits("-1:1"), splits("99:60"), onesFrom(59), onesFrom(60), onesFrom(61)}
}

func TestSplitHeapsAndResultsAreApart(t *testing.T) {
	checkApart(t, []heapCall{{"AreSplitHeaps", func(h []int) []any { return []any{impl.AreSplitHeaps(h)} }}}, splitLists())
	for rule := -1; rule <= 3; rule++ {
		checkApart(t, byRule(rule, allSplitCalls()), splitLists())
	}
}

func TestListsOfSplitsAndResultsAreApart(t *testing.T) {
	for rule := -1; rule <= 3; rule++ {
		play := func(heaps []int, list []impl.Split) ([]int, bool) { return impl.PlaySplits(rule, heaps, list) }
		checkPlaysApart(t, play, splitLists(), listsOfSplits(), split(0, 1))
	}
	for _, list := range listsOfSplits() {
		for _, mark := range []impl.Split{{}, split(0, 1), split(-9, -9)} {
			l := guard(list, mark)
			impl.ScoreOfSplits(60, l.list)
			l.check(t, "ScoreOfSplits")
			impl.SplitsText(l.list)
			l.check(t, "SplitsText")
		}
	}
}

func TestHeapsAreLeftBySplits(t *testing.T) {
	for rule := range 3 {
		for _, s := range []impl.Split{split(0, 1), split(1, 2), split(1, 3), split(2, 4), split(3, 1), split(-1, 1), {}} {
			h := guard([]int{9, 6, 8}, 6)
			behind, _ := impl.MakeSplit(rule, h.list, s)
			h.check(t, "MakeSplit")
			spoil([]any{behind})
			h.check(t, "MakeSplit, its result overwritten")
		}
	}
}

func TestResultsOfOneHeapAreNew(t *testing.T) {
	for rule := range 3 {
		for heap := 1; heap <= 14; heap++ {
			checkInnerApart(t, fmt.Sprint("EndsOfSplit of ", heap, " by ", rule), func() [][]int {
				ends, _ := impl.EndsOfSplit(rule, heap)
				return ends
			})
			for _, c := range singleCalls() {
				want := copied(c.call(rule, heap))
				spoil(c.call(rule, heap))
				wantSame(t, fmt.Sprint(c.name, " again, the first result overwritten"), c.call(rule, heap), want...)
			}
		}
	}
	for range 3 {
		list, ok := impl.ParseSplits("0:2,1:1,99:60")
		wantSame(t, "ParseSplits", []any{list, ok}, splits("0:2,1:1,99:60"), true)
		spoil([]any{list})
	}
}

// What is behind a list's length would change each of these results.
func TestSpareCapacityBehindSplitHeapsIsNotRead(t *testing.T) {
	row := []int{3, 5, 4, 61, 0}
	wantAreSplitHeaps(t, row[:3], true)
	wantAreSplitHeaps(t, row[:4], false)
	wantAreSplitHeaps(t, row[:0], false)
	wantSplit(t, "SplitsOf", 0, row[:1], splits("0:1"))
	wantSplit(t, "IsSplitOver", 2, row[:1], true)
	wantSplit(t, "ValueOfHeaps", 0, row[:1], 1)
	wantSplit(t, "DoesFirstWin", 2, row[:1], false)
	wantSplit(t, "WinningSplits", 0, row[:1], splits("0:1"))
	wantSplit(t, "BestPlay", 0, row[:1], splits("0:1"))
	wantSplit(t, "PlaySplits", 0, row[:2], []int{3, 5})
	wantMade(t, 0, row[:1], split(0, 1), []int{2, 1})
	wantNotMade(t, 0, row[:1], split(1, 2))
	list := splits("0:1,0:1,7:7")
	wantSplitsPlayed(t, 1, row[:2], list[:1], []int{2, 5, 1})
	wantScore(t, 3, list[:2], 3)
	wantSplitsText(t, list[:2], "0:1,0:1")
}

func TestSplitCallsAtTheSameTime(t *testing.T) {
	for rule := range 3 {
		checkAtTheSameTime(t, byRule(rule, allSplitCalls()), []int{7, 8, 15}, 20)
	}
}

// Goroutines that a call starts have ended their work behind it, and go soon.
func TestSplitCallsLeaveNoGoroutines(t *testing.T) {
	before := runtime.NumGoroutine()
	for rule := -1; rule <= 3; rule++ {
		for _, c := range allSplitCalls() {
			for range 20 {
				c.call(rule, []int{7, 8, 15})
				c.call(rule, repeated(60, 8))
				c.call(rule, []int{1, 1})
			}
		}
	}
	for range 100000 {
		if runtime.NumGoroutine() <= before {
			return
		}
		runtime.Gosched()
	}
	t.Errorf("%d goroutines are left, there were %d", runtime.NumGoroutine(), before)
}
