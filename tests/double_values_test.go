package tests

import (
	"fmt"
	"slices"
	"testing"

	"loop.example/g01333/impl"
)

func TestDoublingExample(t *testing.T) {
	wantPair(t, "PairStep", 5, 3, 2, 6, true)
	wantPair(t, "PairStep", 2, 6, 4, 4, true)
	wantPair(t, "PairStep", 4, 4, 0, 8, true)
	wantPair(t, "PairStepsToEmpty", 5, 3, 3, true)
	wantPair(t, "PairStep", 1, 2, 2, 1, true)
	wantPair(t, "PairStep", 2, 1, 1, 2, true)
	wantPair(t, "PairLead", 1, 2, 0, true)
	wantPair(t, "PairPeriod", 1, 2, 2, true)

	way, ok := impl.FirstToEmpty(mustParse(t, "3-5-7"))
	text, textOK := impl.DoublingsText(way)
	wantSame(t, "FirstToEmpty", []any{ok, text, textOK}, true, "10-01-01", true)
	heaps := mustParse(t, "3-5-7")
	for k, want := range []string{"6-2-7", "4-4-7", "0-8-7"} {
		heaps, ok = impl.DoubleHeap(heaps, way[k])
		wantSame(t, fmt.Sprint("DoubleHeap ", k), []any{heaps, ok}, mustParse(t, want), true)
	}

	list, ok := impl.QuotientDoublings(mustParse(t, "2-5-9"))
	text, textOK = impl.DoublingsText(list)
	wantSame(t, "QuotientDoublings", []any{ok, text, textOK}, true, "20-10-21-21-21", true)
}

func TestDoublingsThatCanBeMade(t *testing.T) {
	rows := []struct{ heaps, want string }{
		{"5-3", "01"},
		{"3-5", "10"},
		{"4-4", "01-10"},
		{"20-20", "01-10"},
		{"0-5", ""},
		{"40-0", ""},
		{"1-0", ""},
		{"0-0-0-40", ""},
		{"3-5-7", "10-20-21"},
		{"7-5-3", "01-02-12"},
		{"3-3-0", "01-10"},
		{"2-0-3-2", "03-20-23-30"},
		{"1-1-1-1", "01-02-03-10-12-13-20-21-23-30-31-32"},
		{"10-10-10-10", "01-02-03-10-12-13-20-21-23-30-31-32"},
	}
	for _, r := range rows {
		heaps, want := mustParse(t, r.heaps), doublings(r.want)
		wantDouble(t, "DoublingsOf", heaps, want, true)
		for from := -1; from <= 5; from++ {
			for to := -1; to <= 5; to++ {
				d := doubling(from, to)
				can, ok := impl.CanDouble(heaps, d)
				wantSame(t, fmt.Sprint("CanDouble of ", r.heaps, d), []any{can, ok}, slices.Contains(want, d), true)
				behind, ok := impl.DoubleHeap(heaps, d)
				if ok != can {
					t.Errorf("DoubleHeap of %s and %v: %v, %v", r.heaps, d, behind, ok)
				}
			}
		}
	}
}

func TestDoubleHeap(t *testing.T) {
	rows := []struct {
		heaps    string
		from, to int
		want     string
	}{
		{"5-3", 0, 1, "2-6"},
		{"3-5", 1, 0, "6-2"},
		{"4-4", 0, 1, "0-8"},
		{"4-4", 1, 0, "8-0"},
		{"20-20", 0, 1, "0-40"},
		{"1-1-0", 1, 0, "2-0-0"},
		{"3-5-7", 2, 0, "6-5-4"},
		{"39-1", 0, 1, "38-2"},
		{"0-3-0-37", 3, 1, "0-6-0-34"},
		{"9-2-9-20", 2, 0, "18-2-0-20"},
	}
	for _, r := range rows {
		d := doubling(r.from, r.to)
		behind, ok := impl.DoubleHeap(mustParse(t, r.heaps), d)
		wantSame(t, fmt.Sprint("DoubleHeap of ", r.heaps, d), []any{behind, ok}, mustParse(t, r.want), true)
		behind, ok = impl.PlayDoublings(mustParse(t, r.heaps), []impl.Doubling{d})
		wantSame(t, fmt.Sprint("PlayDoublings of ", r.heaps, d), []any{behind, ok}, mustParse(t, r.want), true)
	}
}

func TestPlayDoublingsOneAfterTheOther(t *testing.T) {
	rows := []struct{ heaps, list, want string }{
		{"3-5-7", "", "3-5-7"},
		{"0-40", "", "0-40"},
		{"3-5-7", "10-01-01", "0-8-7"},
		{"2-5-9", "20-10-21-21-21", "8-8-0"},
		{"1-2", "10-01-10", "2-1"},
		{"1-2-4-8", "32-10-01", "1-2-8-4"},
	}
	for _, r := range rows {
		played, ok := impl.PlayDoublings(mustParse(t, r.heaps), doublings(r.list))
		wantSame(t, fmt.Sprint("PlayDoublings of ", r), []any{played, ok}, mustParse(t, r.want), true)
	}
	for _, list := range []string{"01", "10-10", "10-01-01", "10-20", "00", "10-01-03", "02"} {
		played, ok := impl.PlayDoublings([]int{1, 2}, doublings(list))
		wantZero(t, "PlayDoublings of 1-2 and "+list, []any{played, ok})
	}
}

func TestWaysToAnEmptyHeap(t *testing.T) {
	rows := []struct{ heaps, want string }{
		{"0-5", ""},
		{"40-0", ""},
		{"0-0-1", ""},
		{"7-0-3-9", ""},
		{"3-3", "01"},
		{"20-20", "01"},
		{"1-3", "10-01"},
		{"5-3", "01-10-01"},
		{"3-5", "10-01-01"},
		{"5-3-3", "12"},
		{"3-5-3", "02"},
		{"10-10-10-10", "01"},
		{"7-1-2-7", "03"},
		{"3-5-7", "10-01-01"},
		{"1-2-4", "20-01"},
		{"10-30", "10-01"},
	}
	for _, r := range rows {
		want := doublings(r.want)
		wantDouble(t, "FirstToEmpty", mustParse(t, r.heaps), want, true)
		wantDouble(t, "FewestToEmpty", mustParse(t, r.heaps), len(want), true)
	}
}

func TestTwoHeapsThatAreNeverEmpty(t *testing.T) {
	for _, s := range []string{"1-2", "2-1", "1-4", "3-4", "1-38", "39-1", "13-27", "2-4", "10-20"} {
		heaps := mustParse(t, s)
		wantDouble(t, "FewestToEmpty", heaps, 0, false)
		wantDouble(t, "FirstToEmpty", heaps, []impl.Doubling{}, false)
	}
}

func TestQuotientDoublings(t *testing.T) {
	rows := []struct{ heaps, want, last string }{
		{"2-5-9", "20-10-21-21-21", "8-8-0"},
		{"0-5-9", "", "0-5-9"},
		{"5-0-9", "", "5-0-9"},
		{"5-9-0", "", "5-9-0"},
		{"0-0-40", "", "0-0-40"},
		{"3-3-7", "10", "6-0-7"},
		{"7-3-3", "21", "7-6-0"},
		{"3-7-3", "20", "6-7-0"},
		{"4-4-4", "10", "8-0-4"},
		{"2-6-6", "10-10", "8-0-6"},
		{"6-2-6", "01-01", "0-8-6"},
		{"6-6-2", "02-02", "0-6-8"},
		{"1-1-38", "10", "2-0-38"},
		{"1-13-26", "10-20-10-10", "16-0-24"},
		{"26-13-1", "12-02-12-12", "24-0-16"},
		{"1-19-20", "10-10-20-20-10", "32-0-8"},
	}
	for _, r := range rows {
		heaps := mustParse(t, r.heaps)
		wantDouble(t, "QuotientDoublings", heaps, doublings(r.want), true)
		played, ok := impl.PlayDoublings(heaps, doublings(r.want))
		wantSame(t, "PlayDoublings of "+r.heaps, []any{played, ok}, mustParse(t, r.last), true)
	}
	for _, s := range []string{"3-5", "4-4", "0-1", "1-1-1-1", "0-0-0-1", "2-5-9-0", "0-2-5-9"} {
		wantDouble(t, "QuotientDoublings", mustParse(t, s), []impl.Doubling{}, false)
	}
}

func TestCountReached(t *testing.T) {
	rows := []struct {
		heaps string
		want  int
	}{
		{"1-0", 1},
		{"0-40", 1},
		{"40-0-0-0", 1},
		{"1-1", 3},
		{"20-20", 3},
		{"1-2", 2},
		{"5-3", 5},
		{"1-39", 7},
		{"1-1-0", 3},
		{"1-1-1", 7},
	}
	for _, r := range rows {
		wantDouble(t, "CountReached", mustParse(t, r.heaps), r.want, true)
	}
}

func TestFewestToBecome(t *testing.T) {
	rows := []struct {
		heaps, goal []int
		want        int
	}{
		{[]int{5, 3}, []int{5, 3}, 0},
		{[]int{5, 3}, []int{2, 6}, 1},
		{[]int{5, 3}, []int{4, 4}, 2},
		{[]int{5, 3}, []int{0, 8}, 3},
		{[]int{5, 3}, []int{8, 0}, 3},
		{[]int{3, 5, 7}, []int{0, 8, 7}, 3},
		{[]int{0, 40}, []int{0, 40}, 0},
		{[]int{1, 2}, []int{2, 1}, 1},
		{[]int{10, 10, 10, 10}, []int{0, 20, 20, 0}, 2},
	}
	for _, r := range rows {
		steps, ok := impl.FewestToBecome(r.heaps, r.goal)
		wantSame(t, fmt.Sprint("FewestToBecome of ", r.heaps, r.goal), []any{steps, ok}, r.want, true)
	}
}

func TestGoalsThatNoDoublingLeadsTo(t *testing.T) {
	rows := []struct{ heaps, goal []int }{
		{[]int{5, 3}, []int{3, 5}},
		{[]int{2, 6}, []int{5, 3}},
		{[]int{0, 5}, []int{5, 0}},
		{[]int{5, 3}, nil},
		{[]int{5, 3}, []int{5}},
		{[]int{5, 3}, []int{5, 3, 0}},
		{[]int{5, 3}, []int{5, 3, -1}},
		{[]int{5, 3}, []int{5, 3, -1, -1}},
		{[]int{5, 3, 0}, []int{5, 3}},
		{[]int{5, 3, 0}, []int{5, 3, 0, 0}},
		{[]int{5, 3, 1, 1}, []int{5, 3, 1, 1, 0}},
		{[]int{5, 3, 1, 1}, []int{5, 3, 1}},
		{[]int{5, 3}, []int{5, 4}},
		{[]int{5, 3}, []int{0, 0}},
		{[]int{5, 3}, []int{-1, 9}},
		{[]int{5, 3}, []int{9, -1}},
		{[]int{5, 3}, []int{-1, -1}},
		{[]int{5, 3}, make([]int, 100000)},
	}
	for _, n := range wildNumbers {
		rows = append(rows, struct{ heaps, goal []int }{[]int{5, 3}, []int{n, 8 - n}}, struct{ heaps, goal []int }{[]int{5, 3}, []int{n, n}})
	}
	for _, r := range rows {
		steps, ok := impl.FewestToBecome(r.heaps, r.goal)
		wantZero(t, fmt.Sprintf("FewestToBecome of %v and %.60s", r.heaps, fmt.Sprint(r.goal)), []any{steps, ok})
	}
}

func TestHeapsBefore(t *testing.T) {
	rows := []struct {
		heaps []int
		want  [][]int
	}{
		{[]int{5, 3}, nil},
		{[]int{1, 0}, nil},
		{[]int{2, 6}, [][]int{{1, 7}, {5, 3}}},
		{[]int{6, 2}, [][]int{{3, 5}, {7, 1}}},
		{[]int{0, 8}, [][]int{{4, 4}}},
		{[]int{40, 0}, [][]int{{20, 20}}},
		{[]int{3, 6}, [][]int{{6, 3}}},
		{[]int{0, 0, 2}, [][]int{{0, 1, 1}, {1, 0, 1}}},
		{[]int{2, 2, 2}, [][]int{{1, 2, 3}, {1, 3, 2}, {2, 1, 3}, {2, 3, 1}, {3, 1, 2}, {3, 2, 1}}},
		{[]int{0, 0, 0, 40}, [][]int{{0, 0, 20, 20}, {0, 20, 0, 20}, {20, 0, 0, 20}}},
		{[]int{5, 2, 1, 3}, [][]int{{5, 1, 1, 4}, {5, 1, 2, 3}, {6, 1, 1, 3}}},
	}
	for _, r := range rows {
		wantDouble(t, "HeapsBefore", r.heaps, r.want, true)
	}
}
