package tests

import (
	"fmt"
	"testing"

	"loop.example/g01333/impl"
)

func TestSplitConstants(t *testing.T) {
	if impl.MaxSplit != 60 || impl.MaxSplitHeaps != 8 || impl.MaxSplitGame != 14 {
		t.Error("the constants are", impl.MaxSplit, impl.MaxSplitHeaps, impl.MaxSplitGame)
	}
}

func wantAreSplitHeaps(t *testing.T, heaps []int, want bool) {
	t.Helper()
	if got := impl.AreSplitHeaps(heaps); got != want {
		t.Errorf("AreSplitHeaps of %.60s is %v", fmt.Sprint(heaps), got)
	}
}

// notSplitHeaps are no heaps: because of how many there are, or because of the stones of one.
func notSplitHeaps() [][]int {
	lists := [][]int{nil, {}, {0}, {-1}, {61}, {62}, {-60}, {-2}, {0, 0}, {0, 5}, {5, 0}, {5, -1}, {-1, 5}, {61, 5}, {5, 61}, {60, 61}, {5, 0, 5}, {5, -1, 5}, {5, 61, 5},
		repeated(0, 8), repeated(-1, 8), repeated(61, 8), append(repeated(5, 7), 0), append(repeated(5, 7), -1), append(repeated(60, 7), 61), append([]int{0}, repeated(5, 7)...),
		repeated(1, 9), repeated(5, 9), repeated(60, 9), repeated(0, 9), repeated(3, 10), repeated(4, 60), make([]int, 2000), repeated(5, 2000)}
	for _, n := range wildNumbers {
		lists = append(lists, []int{n}, []int{n, 5}, []int{5, n}, []int{n, n}, []int{n, -n}, []int{5, n, 5}, []int{n, 10 - n}, repeated(n, 8), append(repeated(5, 7), n), repeated(n, 9))
	}
	return lists
}

func notRules() []int {
	return append([]int{-2, 3, 4, 60, -3}, wildNumbers...)
}

// edgeSplitHeaps are heaps by the least: one and eight, the least and greatest heaps.
func edgeSplitHeaps() [][]int {
	return [][]int{{1}, {2}, {3}, {4}, {5}, {59}, {60}, {1, 1}, {2, 2}, {60, 60}, {1, 60}, {60, 1}, {5, 6, 7}, repeated(1, 7), repeated(1, 8), repeated(2, 8), repeated(60, 7), repeated(60, 8),
		append(repeated(1, 7), 60), append(repeated(60, 7), 1), {1, 2, 3, 4, 5, 6, 7, 8}}
}

func TestInvalidSplitHeaps(t *testing.T) {
	for _, heaps := range notSplitHeaps() {
		what := fmt.Sprintf(" of %.60s", fmt.Sprint(heaps))
		wantAreSplitHeaps(t, heaps, false)
		for _, rule := range append([]int{0, 1, 2}, notRules()...) {
			for _, c := range allSplitCalls() {
				wantZero(t, fmt.Sprint(c.name, what, " by ", rule), c.call(rule, heaps))
			}
			for _, s := range []impl.Split{{}, split(0, 1), split(0, 2), split(1, 1), split(1, 2), split(-1, -1), split(7, 2), split(8, 2)} {
				wantNotMade(t, rule, heaps, s)
			}
		}
	}
}

func TestSplitHeapsByTheLeast(t *testing.T) {
	for _, heaps := range edgeSplitHeaps() {
		wantAreSplitHeaps(t, heaps, true)
		for rule := range 3 {
			for _, c := range splitCalls() {
				if results := c.call(rule, heaps); results[1] != true {
					t.Errorf("%s of %v by %d: %v", c.name, heaps, rule, results)
				}
			}
		}
	}
	for stones := -5; stones < 70; stones++ {
		wantAreSplitHeaps(t, []int{stones}, stones >= 1 && stones <= 60)
		wantAreSplitHeaps(t, []int{1, 2, 3, 4, 5, 6, 7, stones}, stones >= 1 && stones <= 60)
	}
	for size := range 15 {
		wantAreSplitHeaps(t, repeated(1, size), size >= 1 && size <= 8)
		wantAreSplitHeaps(t, repeated(60, size), size >= 1 && size <= 8)
	}
}

func TestInvalidRules(t *testing.T) {
	for _, rule := range notRules() {
		for _, heaps := range edgeSplitHeaps() {
			for _, c := range allSplitCalls() {
				wantZero(t, fmt.Sprint(c.name, " of ", heaps, " by ", rule), c.call(rule, heaps))
			}
			wantNotMade(t, rule, heaps, split(0, 1))
			wantNotMade(t, rule, heaps, split(0, 2))
		}
		for _, c := range singleCalls() {
			for _, heap := range append([]int{0, 1, 2, 3, 5, 14, 15, 60, 61}, wildNumbers...) {
				wantZero(t, fmt.Sprint(c.name, " of ", heap, " by ", rule), c.call(rule, heap))
			}
		}
	}
}

func TestSingleHeapsByTheLeast(t *testing.T) {
	for _, c := range append(singleCalls(), anyRuleCalls()...) {
		for rule := range 3 {
			for heap := -5; heap < 130; heap++ {
				results := c.call(rule, heap)
				if heap >= 1 && heap <= c.most {
					if results[1] != true {
						t.Errorf("%s of %d by %d: %v", c.name, heap, rule, results)
					}
					continue
				}
				wantZero(t, fmt.Sprint(c.name, " of ", heap, " by ", rule), results)
			}
			for _, heap := range wildNumbers {
				wantZero(t, fmt.Sprint(c.name, " of ", heap, " by ", rule), c.call(rule, heap))
			}
		}
	}
}

func TestSplitsThatCannotBeMade(t *testing.T) {
	for rule := range 3 {
		for _, heaps := range [][]int{{1}, {7}, {60}, {5, 8}, {1, 9, 1}, {20, 21, 22, 23, 24, 25, 26, 27}, repeated(60, 8)} {
			for _, heap := range append([]int{-1, -2, -len(heaps), len(heaps), len(heaps) + 1, 8, 9, 60, 99, 100}, wildNumbers...) {
				for _, part := range append([]int{-1, 0, 1, 2, 3, 4}, wildNumbers...) {
					wantNotMade(t, rule, heaps, split(heap, part))
				}
			}
			for heap, stones := range heaps {
				for _, part := range append([]int{0, -1, -2, -stones, stones/2 + 1, stones - 1, stones, stones + 1, 61}, wildNumbers...) {
					if stones > 3 || part != 1 {
						wantNotMade(t, rule, heaps, split(heap, part))
					}
				}
			}
		}
	}
}

// Each rule forbids just what it tells.
func TestHeapsOfFewStonesByEachRule(t *testing.T) {
	for _, r := range []struct{ rule, heap, part, left int }{
		{0, 3, 1, 2}, {1, 3, 1, 2}, {1, 2, 1, 1}, {0, 4, 1, 3}, {1, 4, 1, 3}, {1, 4, 2, 2}, {2, 4, 2, 2}, {2, 5, 2, 3}, {0, 5, 2, 3}, {0, 5, 1, 4}, {1, 60, 30, 30}, {2, 60, 30, 30}, {0, 60, 29, 31}, {0, 59, 29, 30}, {2, 59, 29, 30},
	} {
		wantMade(t, r.rule, []int{r.heap}, split(0, r.part), []int{r.left, r.part})
		wantMade(t, r.rule, []int{1, r.heap, 7}, split(1, r.part), []int{1, r.left, 7, r.part})
	}
	for _, r := range []struct{ rule, heap, part int }{
		{0, 1, 1}, {1, 1, 1}, {2, 1, 1}, {0, 1, 0}, {1, 1, 0}, {2, 1, 0}, {2, 1, 2}, {0, 2, 1}, {2, 2, 1}, {0, 2, 2}, {1, 2, 2}, {2, 2, 2}, {0, 2, 0}, {1, 2, 0}, {2, 2, 0}, {2, 3, 1}, {0, 3, 2}, {1, 3, 2}, {2, 3, 2},
		{0, 4, 2}, {2, 4, 1}, {0, 4, 3}, {1, 4, 3}, {2, 4, 3}, {2, 5, 1}, {1, 5, 3}, {2, 5, 3}, {0, 5, 3}, {0, 60, 30}, {1, 60, 31}, {2, 60, 31}, {2, 60, 1}, {2, 60, 58}, {0, 60, 31}, {0, 59, 30},
	} {
		wantNotMade(t, r.rule, []int{r.heap}, split(0, r.part))
		wantNotMade(t, r.rule, []int{1, r.heap, 7}, split(1, r.part))
	}
}

func TestAtMostSixtySplits(t *testing.T) {
	for _, size := range []int{0, 1, 58, 59} {
		list := onesFrom(size)
		played := append([]int{60 - size}, repeated(1, size)...)
		wantSplitsPlayed(t, 1, []int{60}, list, played)
		wantScore(t, 60, list, 60*59/2-(60-size)*(59-size)/2)
	}
	// The heap 0 has one stone left behind 59, and another heap goes on.
	wantSplitsPlayed(t, 1, []int{60, 9}, append(onesFrom(59), split(1, 4)), append(append([]int{1, 5}, repeated(1, 59)...), 4))
	wantSplitsNotPlayed(t, 1, []int{60, 9}, append(onesFrom(59), split(1, 4), split(1, 2)))
	wantSplitsNotPlayed(t, 1, []int{60}, onesFrom(60))
	wantNoScore(t, 60, onesFrom(60))
	for _, size := range []int{60, 61, 62, 100, 100000} {
		// Up to 100 of these could be made, if there were not more than 60.
		list := make([]impl.Split, size)
		for k := range list {
			list[k] = split(k/50%8, 1)
		}
		_, ok := impl.PlaySplits(1, repeated(60, 8), list)
		if ok != (size == 60) {
			t.Errorf("PlaySplits of %d splits: %v", size, ok)
		}
		for rule := range 3 {
			wantSplitsNotPlayed(t, rule, []int{5}, make([]impl.Split, size))
		}
		wantNoScore(t, 60, list)
		wantNoScore(t, 60, make([]impl.Split, size))
	}
}

func TestStonesForBestPlay(t *testing.T) {
	for rule := range 3 {
		for _, heaps := range [][]int{{30}, {29, 1}, {1, 29}, {15, 15}, {10, 10, 10}, {4, 4, 4, 4, 4, 4, 3, 3}, {1, 1, 1, 1, 1, 1, 1, 23}, {29}, {1}, repeated(1, 8)} {
			play, ok := impl.BestPlay(rule, heaps)
			if !ok {
				t.Errorf("BestPlay of %v by %d: %v, %v", heaps, rule, play, ok)
			}
		}
		for _, heaps := range [][]int{{31}, {30, 1}, {1, 30}, {15, 16}, {10, 10, 11}, {4, 4, 4, 4, 4, 4, 4, 3}, {1, 1, 1, 1, 1, 1, 1, 24}, {60}, {60, 60}, repeated(60, 8), repeated(5, 8)} {
			play, ok := impl.BestPlay(rule, heaps)
			wantZero(t, fmt.Sprint("BestPlay of ", heaps, " by ", rule), []any{play, ok})
		}
	}
}

func TestInvalidScores(t *testing.T) {
	for _, heap := range append([]int{0, -1, 61, 62, -60, 1000}, wildNumbers...) {
		for _, list := range [][]impl.Split{nil, onesFrom(1), splits("0:2,1:1"), onesFrom(60), onesFrom(61), {split(heap, heap)}} {
			wantNoScore(t, heap, list)
		}
	}
	for _, heap := range []int{1, 2, 7, 60} {
		for _, n := range append([]int{-1, 1, 8, 60, 61}, wildNumbers...) {
			wantNoScore(t, heap, []impl.Split{split(n, 1)})
		}
		for _, n := range append([]int{-1, 0, heap/2 + 1, heap, 61}, wildNumbers...) {
			wantNoScore(t, heap, []impl.Split{split(0, n)})
		}
	}
}
