package tests

import (
	"fmt"
	"slices"
	"testing"

	"loop.example/g01333/impl"
)

func TestSplitExample(t *testing.T) {
	// By the rule 0 a heap of 3 can be split into 2 and 1 alone, and the game is over.
	wantSplit(t, "SplitsOf", 0, []int{3}, splits("0:1"))
	wantMade(t, 0, []int{3}, split(0, 1), []int{2, 1})
	wantSplit(t, "IsSplitOver", 0, []int{3}, false)
	wantSplit(t, "IsSplitOver", 0, []int{2, 1}, true)
	wantSingle(t, "ValueOfSplit", 0, 3, 1)
	wantSingle(t, "LosingHeaps", 0, 10, []int{1, 2, 4, 7, 10})
	// By the rule 1 a heap of 4 always needs 3 splits, and so the first player wins.
	wantSingle(t, "LongestSplit", 1, 4, 3)
	wantSingle(t, "ShortestSplit", 1, 4, 3)
	wantSplit(t, "DoesFirstWin", 1, []int{4}, true)
	wantSingle(t, "FullScore", 1, 4, 6)
	// By the rule 2 a heap of 5 can be split once, into 3 and 2.
	wantSplit(t, "SplitsOf", 2, []int{5}, splits("0:2"))
	wantMade(t, 2, []int{5}, split(0, 2), []int{3, 2})
	wantSplit(t, "IsSplitOver", 2, []int{3, 2}, true)
	wantSingle(t, "EndsOfSplit", 0, 5, [][]int{{1, 1, 1, 2}, {1, 2, 2}})
}

func TestSplitsOfHeaps(t *testing.T) {
	for _, r := range []struct {
		rule  int
		heaps []int
		want  string
	}{
		{0, []int{1}, ""}, {1, []int{1}, ""}, {2, []int{1}, ""},
		{0, []int{2}, ""}, {1, []int{2}, "0:1"}, {2, []int{2}, ""},
		{0, []int{3}, "0:1"}, {1, []int{3}, "0:1"}, {2, []int{3}, ""},
		{0, []int{4}, "0:1"}, {1, []int{4}, "0:1,0:2"}, {2, []int{4}, "0:2"},
		{0, []int{7}, "0:1,0:2,0:3"}, {1, []int{7}, "0:1,0:2,0:3"}, {2, []int{7}, "0:2,0:3"},
		{0, []int{8}, "0:1,0:2,0:3"}, {1, []int{8}, "0:1,0:2,0:3,0:4"}, {2, []int{8}, "0:2,0:3,0:4"},
		{0, []int{5, 1, 4}, "0:1,0:2,2:1"}, {1, []int{5, 1, 4}, "0:1,0:2,2:1,2:2"}, {2, []int{5, 1, 4}, "0:2,2:2"},
		{0, []int{2, 2, 1, 3}, "3:1"}, {1, []int{2, 2, 1, 3}, "0:1,1:1,3:1"}, {2, []int{2, 2, 1, 3}, ""},
		{0, repeated(1, 8), ""}, {1, repeated(1, 8), ""}, {2, repeated(1, 8), ""},
		{0, repeated(2, 8), ""}, {1, repeated(2, 8), "0:1,1:1,2:1,3:1,4:1,5:1,6:1,7:1"}, {2, repeated(2, 8), ""},
		{0, repeated(4, 8), "0:1,1:1,2:1,3:1,4:1,5:1,6:1,7:1"}, {2, repeated(4, 8), "0:2,1:2,2:2,3:2,4:2,5:2,6:2,7:2"},
	} {
		wantSplit(t, "SplitsOf", r.rule, r.heaps, splits(r.want))
		wantSplit(t, "IsSplitOver", r.rule, r.heaps, r.want == "")
	}
	for rule, want := range [][]int{{1, 29}, {1, 30}, {2, 30}} {
		list, _ := impl.SplitsOf(rule, []int{60})
		wantSame(t, fmt.Sprint("the first and the last split of 60 by ", rule), []any{list[0], list[len(list)-1], len(list)}, split(0, want[0]), split(0, want[1]), want[1]-want[0]+1)
		list, _ = impl.SplitsOf(rule, repeated(60, 8))
		wantSame(t, fmt.Sprint("the first and the last split of eight heaps of 60 by ", rule), []any{list[0], list[len(list)-1], len(list)}, split(0, want[0]), split(7, want[1]), 8*(want[1]-want[0]+1))
	}
}

func TestHeapsBehindSplits(t *testing.T) {
	for _, r := range []struct {
		rule  int
		heaps []int
		list  string
		want  []int
	}{
		{0, []int{3}, "", []int{3}},
		{2, repeated(60, 8), "", repeated(60, 8)},
		{0, []int{9}, "0:4", []int{5, 4}},
		{0, []int{9}, "0:4,0:1", []int{4, 4, 1}},
		{0, []int{9}, "0:4,1:1", []int{5, 3, 1}},
		{0, []int{9}, "0:2,0:3,0:1,2:1", []int{3, 2, 2, 1, 1}},
		{1, []int{4}, "0:2,0:1,1:1", []int{1, 1, 1, 1}},
		{1, []int{4}, "0:1,0:1,0:1", []int{1, 1, 1, 1}},
		{2, []int{11}, "0:5,1:2,0:3", []int{3, 3, 2, 3}},
		{1, []int{1, 6, 1}, "1:3,3:1,1:1", []int{1, 2, 1, 2, 1, 1}},
		// The new heap is the one with the last index, and is split itself.
		{1, []int{2, 20}, "1:10,2:5,3:2,4:1", []int{2, 10, 5, 3, 1, 1}},
		// There are more than eight heaps.
		{0, repeated(3, 8), "7:1", []int{3, 3, 3, 3, 3, 3, 3, 2, 1}},
		{1, repeated(2, 8), "0:1,1:1,2:1,3:1,4:1,5:1,6:1,7:1", repeated(1, 16)},
		{2, repeated(60, 8), "0:30,8:15,9:7,10:3", append(append([]int{30}, repeated(60, 7)...), 15, 8, 4, 3)},
	} {
		wantSplitsPlayed(t, r.rule, r.heaps, splits(r.list), r.want)
		if list := splits(r.list); len(list) == 1 {
			wantMade(t, r.rule, r.heaps, list[0], r.want)
		}
	}
	for _, r := range []struct {
		rule  int
		heaps []int
		list  string
	}{
		{0, []int{3}, "0:1,0:1"}, {0, []int{3}, "0:1,1:1"}, {1, []int{3}, "0:1,1:1"}, {1, []int{3}, "0:1,0:1,0:1"}, {0, []int{9}, "0:4,1:2"}, {0, []int{9}, "1:1,0:4"}, {0, []int{9}, "0:4,2:1"},
		{2, []int{7}, "0:2,1:1"}, {2, []int{7}, "0:3,1:1"}, {2, []int{7}, "0:1"}, {1, []int{4}, "0:2,2:1"}, {1, []int{4}, "0:2,1:1,1:1,0:1"}, {1, []int{60}, "0:30,0:15,0:8"}, {1, []int{60}, "0:30,-1:1"}, {1, []int{60}, "0:30,1:0"},
	} {
		wantSplitsNotPlayed(t, r.rule, r.heaps, splits(r.list))
	}
}

func TestValuesOfHeaps(t *testing.T) {
	// Of Grundy's game, whose rule is the rule 0, these are known.
	known := []int{0, 0, 1, 0, 2, 1, 0, 2, 1, 0, 2, 1, 3, 2, 1, 3, 2, 4, 3, 0, 4, 3, 0, 4, 3, 0, 4, 1, 2, 3, 1, 2, 4, 1, 2, 4, 1, 2, 4, 1, 5, 4, 1, 5, 4, 1, 5, 4, 1, 0, 2, 1, 0, 2, 1, 5, 2, 1, 3, 2}
	for k, value := range known {
		wantSingle(t, "ValueOfSplit", 0, k+1, value)
		wantSingle(t, "ValueOfSplit", 1, k+1, k%2)
		wantSplit(t, "ValueOfHeaps", 0, []int{k + 1}, value)
		wantSplit(t, "ValueOfHeaps", 0, []int{k + 1, k + 1}, 0)
	}
	for k, value := range []int{0, 0, 0, 1, 1, 2, 0, 3, 1, 1, 0, 3, 3, 2, 2, 4, 0, 5, 2, 2, 3, 3, 0, 1, 1, 3, 0, 2, 1, 1, 0, 4, 5, 2, 7, 4} {
		wantSingle(t, "ValueOfSplit", 2, k+1, value)
	}
	for _, r := range []struct {
		rule  int
		heaps []int
		want  int
	}{
		{0, []int{1, 2, 4, 7}, 0},
		{0, []int{3, 5}, 3},
		{0, []int{3, 5, 13}, 0},
		{0, []int{3, 6}, 0},
		{0, []int{5, 18}, 6},
		{0, []int{3, 5, 18}, 7},
		{0, []int{41, 3, 5}, 6},
		{1, []int{2, 4, 6}, 1},
		{1, []int{2, 4, 6, 1, 3}, 1},
		{1, []int{60, 60}, 0},
		{2, []int{3, 3, 3}, 0},
		{2, []int{4, 6}, 3},
		{2, []int{4, 6, 8}, 0},
		{2, []int{35, 18}, 2},
		{2, repeated(35, 8), 0},
		{2, repeated(35, 7), 7},
	} {
		wantSplit(t, "ValueOfHeaps", r.rule, r.heaps, r.want)
		wantSplit(t, "DoesFirstWin", r.rule, r.heaps, r.want != 0)
	}
}

func TestSplitsThatWin(t *testing.T) {
	for _, r := range []struct {
		rule  int
		heaps []int
		want  string
	}{
		{0, []int{1}, ""}, {1, []int{1}, ""}, {2, []int{1}, ""}, {0, []int{2}, ""}, {1, []int{2}, "0:1"}, {2, []int{3}, ""},
		{0, []int{3}, "0:1"},
		{0, []int{4}, ""},
		// Of 5, into 4 and 1 wins, into 3 and 2 loses.
		{0, []int{5}, "0:1"},
		{0, []int{6}, "0:2"},
		{0, []int{7}, ""},
		{0, []int{8}, "0:1"},
		{0, []int{9}, "0:2,0:3"},
		{0, []int{3, 3}, ""},
		{0, []int{3, 6, 9}, "0:1,1:2,2:2,2:3"},
		{0, []int{5, 9, 3}, "0:1"},
		{1, []int{4}, "0:1,0:2"},
		{1, []int{4, 1, 3}, "0:1,0:2,2:1"},
		{1, []int{3, 3}, ""},
		{2, []int{8}, "0:4"},
		{2, []int{5, 5, 4}, "0:2,1:2,2:2"},
		{2, []int{4, 6}, "1:2"},
	} {
		wantSplit(t, "WinningSplits", r.rule, r.heaps, splits(r.want))
		wantSplit(t, "DoesFirstWin", r.rule, r.heaps, r.want != "")
	}
}

func TestHeapsThatLose(t *testing.T) {
	all := [][]int{{1, 2, 4, 7, 10, 20, 23, 26, 50, 53}, nil, {1, 2, 3, 7, 11, 17, 23, 27, 31, 37, 41, 45, 57}}
	for heap := 1; heap <= 60; heap += 2 {
		all[1] = append(all[1], heap)
	}
	for rule, losing := range all {
		for most := 1; most <= 60; most++ {
			count := 0
			for count < len(losing) && losing[count] <= most {
				count++
			}
			wantSingle(t, "LosingHeaps", rule, most, losing[:count])
		}
		for heap := 1; heap <= 60; heap++ {
			wantSplit(t, "DoesFirstWin", rule, []int{heap}, !slices.Contains(losing, heap))
		}
	}
}

func TestBestPlays(t *testing.T) {
	for _, r := range []struct {
		rule  int
		heaps []int
		want  string
	}{
		{0, []int{1}, ""}, {0, []int{2}, ""}, {1, []int{1}, ""}, {2, []int{3}, ""}, {0, []int{2, 1, 2}, ""},
		{0, []int{3}, "0:1"},
		{0, []int{4}, "0:1,0:1"},
		{0, []int{5}, "0:1,0:1,0:1"},
		{0, []int{6}, "0:2,0:1,0:1"},
		{0, []int{7}, "0:1,0:2,0:1,0:1"},
		{1, []int{4}, "0:1,0:1,0:1"},
		{1, []int{1, 3}, "1:1,1:1"},
		{2, []int{4, 6}, "1:2,0:2,1:2"},
		{2, []int{8}, "0:4,0:2,1:2"},
		{2, []int{7, 3}, "0:2,0:2"},
		{0, []int{3, 3}, "0:1,1:1"},
		// There are more than eight heaps before the play is over.
		{1, repeated(2, 8), "0:1,1:1,2:1,3:1,4:1,5:1,6:1,7:1"},
		{0, repeated(3, 8), "0:1,1:1,2:1,3:1,4:1,5:1,6:1,7:1"},
		{2, []int{4, 4, 4, 4, 4, 4, 3, 3}, "0:2,1:2,2:2,3:2,4:2,5:2"},
	} {
		wantSplit(t, "BestPlay", r.rule, r.heaps, splits(r.want))
	}
	play, ok := impl.BestPlay(1, []int{30})
	wantSame(t, "BestPlay of 30", []any{play, ok}, onesFrom(29), true)
}

func TestLengthsOfGames(t *testing.T) {
	for _, r := range []struct{ rule, heap, longest, shortest int }{
		{0, 1, 0, 0}, {0, 2, 0, 0}, {0, 3, 1, 1}, {0, 4, 2, 2}, {0, 5, 3, 2}, {0, 6, 4, 3}, {0, 7, 5, 3}, {0, 59, 57, 29}, {0, 60, 58, 30},
		{2, 1, 0, 0}, {2, 2, 0, 0}, {2, 3, 0, 0}, {2, 4, 1, 1}, {2, 5, 1, 1}, {2, 6, 2, 1}, {2, 7, 2, 2}, {2, 8, 3, 2}, {2, 9, 3, 2}, {2, 59, 28, 19}, {2, 60, 29, 19},
	} {
		wantSingle(t, "LongestSplit", r.rule, r.heap, r.longest)
		wantSingle(t, "ShortestSplit", r.rule, r.heap, r.shortest)
	}
	for heap := 1; heap <= 60; heap++ {
		wantSingle(t, "LongestSplit", 1, heap, heap-1)
		wantSingle(t, "ShortestSplit", 1, heap, heap-1)
	}
}

func TestGamesThatAreCounted(t *testing.T) {
	for rule, counts := range [][]int{
		{1, 1, 1, 1, 2, 3, 8, 18, 55, 148, 537, 1799, 7177, 26832},
		{1, 1, 1, 3, 6, 24, 84, 498, 2220, 15108, 92328, 773580, 5636460, 53563476},
		{1, 1, 1, 1, 1, 2, 2, 5, 6, 14, 22, 58, 95, 249},
	} {
		for k, count := range counts {
			wantSingle(t, "CountSplitGames", rule, k+1, count)
		}
	}
}

func TestScores(t *testing.T) {
	for _, r := range []struct {
		heap int
		list string
		want int
	}{
		{1, "", 0}, {2, "", 0}, {60, "", 0}, {2, "0:1", 1}, {3, "0:1", 2}, {3, "0:1,0:1", 3}, {4, "0:1", 3}, {4, "0:2", 4}, {4, "0:2,0:1", 5}, {4, "0:2,0:1,1:1", 6}, {4, "0:1,0:1,0:1", 6}, {4, "0:1,0:1", 5},
		{9, "0:4", 20}, {9, "0:4,1:1", 23}, {60, "0:30", 900}, {60, "0:30,1:15", 1125}, {60, "0:1", 59}, {60, "0:29", 31 * 29},
	} {
		wantScore(t, r.heap, splits(r.list), r.want)
	}
	for _, r := range []struct {
		heap int
		list string
	}{
		{1, "0:1"}, {1, "0:0"}, {2, "0:1,0:1"}, {2, "0:1,1:1"}, {2, "1:1"}, {3, "0:2"}, {4, "0:2,0:2,1:1"}, {4, "0:2,2:1,1:1"}, {4, "0:1,1:1,0:1"}, {4, "0:1,0:1,0:1,0:1"}, {9, "0:4,-1:1,1:1"}, {9, "0:4,1:0,1:1"}, {60, "0:31"}, {60, "0:30,0:16,1:1"},
	} {
		wantNoScore(t, r.heap, splits(r.list))
	}
	for heap := 1; heap <= 60; heap++ {
		wantSingle(t, "FullScore", 1, heap, heap*(heap-1)/2)
		wantScore(t, heap, onesFrom(heap-1), heap*(heap-1)/2)
	}
	wantSingle(t, "FullScore", 1, 60, 1770)
}

func TestEndsOfGames(t *testing.T) {
	for heap := 1; heap <= 14; heap++ {
		wantSingle(t, "EndsOfSplit", 1, heap, [][]int{repeated(1, heap)})
	}
	for _, r := range []struct {
		rule, heap int
		want       [][]int
	}{
		{0, 1, [][]int{{1}}}, {0, 2, [][]int{{2}}}, {0, 3, [][]int{{1, 2}}}, {0, 4, [][]int{{1, 1, 2}}},
		{0, 7, [][]int{{1, 1, 1, 1, 1, 2}, {1, 1, 1, 2, 2}, {1, 2, 2, 2}}},
		{0, 8, [][]int{{1, 1, 1, 1, 1, 1, 2}, {1, 1, 1, 1, 2, 2}, {1, 1, 2, 2, 2}}},
		{2, 1, [][]int{{1}}}, {2, 2, [][]int{{2}}}, {2, 3, [][]int{{3}}}, {2, 4, [][]int{{2, 2}}}, {2, 5, [][]int{{2, 3}}}, {2, 6, [][]int{{2, 2, 2}, {3, 3}}}, {2, 7, [][]int{{2, 2, 3}}},
		{2, 9, [][]int{{2, 2, 2, 3}, {3, 3, 3}}},
		{2, 14, [][]int{{2, 2, 2, 2, 2, 2, 2}, {2, 2, 2, 2, 3, 3}, {2, 3, 3, 3, 3}}},
	} {
		wantSingle(t, "EndsOfSplit", r.rule, r.heap, r.want)
	}
}
