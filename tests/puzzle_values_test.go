package tests

import (
	"fmt"
	"testing"

	"loop.example/g01333/impl"
)

// The specification's example, word for word.
func TestPuzzleExample(t *testing.T) {
	p, ok := impl.ParsePuzzle("2h0.0.0.9,1.0.1.1")
	wantSame(t, "ParsePuzzle", []any{p, ok}, impl.Puzzle{Heaps: 2, Clues: []impl.Clue{{Kind: 0, A: 0, B: 0, C: 9}, {Kind: 1, A: 0, B: 1, C: 1}}}, true)
	wantPuzzle(t, "Solutions", p, [][]int{{5, 4}})
	wantPuzzle(t, "FirstSolution", p, []int{5, 4})
	wantPuzzle(t, "CountSolutions", p, 1)
	wantPuzzle(t, "IsSolved", p, true)
	wantPuzzle(t, "LeftByClues", p, []int{36, 2, 1})
	wantPuzzle(t, "SureHeaps", puzzle("2h5.0.0.0"), []int{0, 0})
	wantPuzzle(t, "SureHeaps", puzzle("3h2.5.0.2,0.0.0.13"), []int{-1, -1, -1})
	wantPuzzle(t, "Solutions", puzzle("3h2.5.0.2,0.0.0.13"), [][]int{{3, 5, 5}, {5, 3, 5}, {5, 5, 3}})
}

func TestSolutionsOfPuzzles(t *testing.T) {
	for _, r := range []struct {
		text string
		want [][]int
	}{
		{"2h0.0.0.0", [][]int{{0, 0}}},
		{"2h0.0.0.2", [][]int{{0, 2}, {1, 1}, {2, 0}}},
		{"2h0.0.0.10", [][]int{{5, 5}}},
		{"2h0.0.0.11", nil},
		{"2h0.0.0.20", nil},
		{"3h0.0.0.14", [][]int{{4, 5, 5}, {5, 4, 5}, {5, 5, 4}}},
		{"3h0.0.0.16", nil},
		{"4h0.0.0.20", [][]int{{5, 5, 5, 5}}},
		{"4h0.0.0.19", [][]int{{4, 5, 5, 5}, {5, 4, 5, 5}, {5, 5, 4, 5}, {5, 5, 5, 4}}},
		{"2h1.0.1.1,5.0.0.2", [][]int{{2, 0}, {2, 1}}},
		{"2h1.0.1.0,5.0.0.1", [][]int{{0, 1}, {1, 1}}},
		{"2h1.1.0.1,5.0.0.1", [][]int{{0, 1}}},
		{"2h1.0.1.1,1.1.0.1", nil},
		{"2h1.0.1.0,1.1.0.0", [][]int{{0, 0}, {1, 1}, {2, 2}, {3, 3}, {4, 4}, {5, 5}}},
		{"2h2.3.0.2", [][]int{{3, 3}}},
		{"2h2.0.0.1,2.5.0.1", [][]int{{0, 5}, {5, 0}}},
		{"3h2.0.0.3", [][]int{{0, 0, 0}}},
		{"2h2.5.0.0,2.4.0.0,2.3.0.0,2.2.0.0,2.1.0.0", [][]int{{0, 0}}},
		{"2h3.0.0.0", [][]int{{0, 0}, {1, 1}, {2, 2}, {3, 3}, {4, 4}, {5, 5}}},
		{"2h3.0.0.1", [][]int{{0, 2}, {1, 3}, {2, 0}, {2, 4}, {3, 1}, {3, 5}, {4, 2}, {5, 3}}},
		{"2h3.0.0.2", [][]int{{0, 4}, {1, 5}, {4, 0}, {5, 1}}},
		{"2h3.0.0.3", nil},
		{"2h3.0.0.19", nil},
		{"2h3.0.0.20,0.0.0.3", [][]int{{0, 3}, {1, 2}, {2, 1}, {3, 0}}},
		{"2h3.0.0.20,0.0.0.4", nil},
		{"3h3.0.0.4", nil},
		{"3h3.0.0.3", [][]int{{0, 1, 5}, {0, 4, 5}, {0, 5, 1}, {0, 5, 4}, {1, 0, 5}, {1, 5, 0}, {4, 0, 5}, {4, 5, 0}, {5, 0, 1}, {5, 0, 4}, {5, 1, 0}, {5, 4, 0}}},
		{"2h4.0.1.10", [][]int{{5, 5}}},
		{"3h4.0.2.10,4.0.1.5", [][]int{{5, 0, 5}}},
		{"3h4.2.0.0", [][]int{{0, 0, 0}, {0, 1, 0}, {0, 2, 0}, {0, 3, 0}, {0, 4, 0}, {0, 5, 0}}},
		{"4h4.1.3.10,4.0.2.0", [][]int{{0, 5, 0, 5}}},
		{"2h5.0.0.0", [][]int{{0, 0}}},
		{"2h5.0.0.1", [][]int{{0, 1}, {1, 0}, {1, 1}}},
		{"4h5.0.0.0", [][]int{{0, 0, 0, 0}}},
	} {
		p := puzzle(r.text)
		wantPuzzle(t, "Solutions", p, r.want)
		wantPuzzle(t, "CountSolutions", p, len(r.want))
		wantPuzzle(t, "IsSolved", p, len(r.want) == 1)
		if len(r.want) == 0 {
			wantNoPuzzle(t, "FirstSolution", p)
			wantNoPuzzle(t, "SureHeaps", p)
			continue
		}
		wantPuzzle(t, "FirstSolution", p, r.want[0])
	}
}

func TestSolutionsThatAreCounted(t *testing.T) {
	for _, r := range []struct {
		text string
		want int
	}{
		{"2h", 36}, {"3h", 216}, {"4h", 1296},
		{"2h0.0.0.9", 2}, {"2h0.0.0.5", 6}, {"3h0.0.0.15", 1}, {"4h0.0.0.10", 146}, {"4h0.0.0.0", 1},
		{"2h1.0.1.1", 15}, {"2h1.0.1.0", 21}, {"3h1.2.0.1", 90}, {"4h1.3.2.0", 756},
		{"2h2.3.0.0", 25}, {"2h2.3.0.1", 10}, {"4h2.0.0.0", 625}, {"4h2.5.0.2", 150}, {"4h2.5.0.4", 1},
		{"2h3.0.0.20", 18}, {"3h3.0.0.20", 144}, {"4h3.0.0.20", 974}, {"4h3.0.0.0", 6},
		{"2h4.1.0.5", 6}, {"4h4.1.0.5", 216}, {"4h4.0.3.0", 36},
		{"2h5.0.0.5", 11}, {"3h5.0.0.5", 91}, {"4h5.0.0.5", 671}, {"4h5.0.0.1", 15},
	} {
		wantPuzzle(t, "CountSolutions", puzzle(r.text), r.want)
		wantPuzzle(t, "IsSolved", puzzle(r.text), r.want == 1)
	}
	for heaps, all := range map[int]int{2: 36, 3: 216, 4: 1296} {
		p := impl.Puzzle{Heaps: heaps}
		wantPuzzle(t, "CountSolutions", p, all)
		wantPuzzle(t, "FirstSolution", p, repeated(0, heaps))
		wantPuzzle(t, "SureHeaps", p, repeated(-1, heaps))
		wantPuzzle(t, "IsSolved", p, false)
		wantPuzzle(t, "LeftByClues", p, []int{all})
		wantPuzzle(t, "NeedlessClues", p, []int{})
		wantPuzzle(t, "PuzzleText", p, fmt.Sprint(heaps, "h"))
		wantNoPuzzle(t, "BestClue", p)
		wantNoPuzzle(t, "HarderPuzzle", p)
	}
}

func TestFitsByEachKind(t *testing.T) {
	for _, r := range []struct {
		clue  string
		heaps []int
		want  bool
	}{
		{"0.0.0.9", []int{5, 4}, true}, {"0.0.0.9", []int{5, 3}, false}, {"0.0.0.0", []int{0, 0, 0}, true}, {"0.0.0.20", []int{5, 5, 5, 5}, true}, {"0.0.0.20", []int{5, 5}, false}, {"0.0.0.15", []int{5, 5, 5}, true},
		{"1.0.1.1", []int{5, 4}, true}, {"1.0.1.0", []int{5, 4}, false}, {"1.1.0.1", []int{5, 4}, false}, {"1.1.0.0", []int{5, 4}, true}, {"1.0.1.1", []int{4, 4}, false}, {"1.0.1.0", []int{4, 4}, true}, {"1.2.0.1", []int{1, 5, 2}, true}, {"1.3.1.1", []int{0, 2, 5, 3}, true}, {"1.1.3.0", []int{0, 2, 5, 3}, true},
		{"2.4.0.1", []int{5, 4}, true}, {"2.4.0.0", []int{5, 4}, false}, {"2.4.0.2", []int{5, 4}, false}, {"2.0.0.2", []int{0, 3, 0}, true}, {"2.3.0.0", []int{0, 4, 0}, true}, {"2.5.0.4", []int{5, 5, 5, 5}, true}, {"2.5.0.3", []int{5, 5, 5, 5}, false},
		{"3.0.0.20", []int{5, 4}, true}, {"3.0.0.0", []int{5, 4}, false}, {"3.0.0.1", []int{5, 3}, true}, {"3.0.0.20", []int{5, 3}, false}, {"3.0.0.0", []int{3, 3}, true}, {"3.0.0.3", []int{5, 1, 0}, true}, {"3.0.0.4", []int{5, 3, 0, 0}, true}, {"3.0.0.20", []int{5, 3, 0}, true}, {"3.0.0.20", []int{1, 0, 0, 0}, true}, {"3.0.0.3", []int{5, 4}, false},
		{"4.0.1.9", []int{5, 4}, true}, {"4.1.0.9", []int{5, 4}, true}, {"4.0.1.8", []int{5, 4}, false}, {"4.2.0.3", []int{1, 5, 2}, true}, {"4.3.1.10", []int{0, 5, 0, 5}, true}, {"4.2.0.0", []int{0, 5, 0, 5}, true},
		{"5.0.0.5", []int{5, 4}, true}, {"5.0.0.4", []int{5, 4}, false}, {"5.0.0.4", []int{3, 4}, true}, {"5.0.0.0", []int{0, 0, 0, 0}, true}, {"5.0.0.3", []int{0, 3, 0, 1}, true}, {"5.0.0.1", []int{0, 3, 0, 1}, false},
	} {
		wantFits(t, clue(r.clue), r.heaps, r.want)
	}
}

func TestHeapsThatAreSure(t *testing.T) {
	for _, r := range []struct {
		text string
		want []int
	}{
		{"2h0.0.0.9,1.0.1.1", []int{5, 4}},
		{"2h1.0.1.1,5.0.0.1", []int{1, 0}},
		{"2h5.0.0.1", []int{-1, -1}},
		{"2h1.0.1.1,5.0.0.2", []int{2, -1}},
		{"2h1.1.0.1,5.0.0.5", []int{-1, 5}},
		{"3h4.0.1.10", []int{5, 5, -1}},
		{"3h4.0.2.0", []int{0, -1, 0}},
		{"4h4.1.3.10,4.0.2.0", []int{0, 5, 0, 5}},
		{"4h4.1.2.0", []int{-1, 0, 0, -1}},
		{"3h3.0.0.3,1.1.0.1,1.1.2.1", []int{-1, 5, -1}},
		// The heap in the middle has none in the first solution and in the last one, but not in those between them.
		{"3h0.0.0.2", []int{-1, -1, -1}},
		{"3h0.0.0.2,1.1.0.0,1.2.1.0", []int{-1, -1, 0}},
	} {
		wantPuzzle(t, "SureHeaps", puzzle(r.text), r.want)
	}
}

func TestNeedlessClues(t *testing.T) {
	for _, r := range []struct {
		text     string
		needless []int
	}{
		{"2h0.0.0.9", nil}, {"2h0.0.0.9,1.0.1.1", nil},
		{"2h0.0.0.9,1.0.1.1,5.0.0.5", []int{2}},
		{"2h5.0.0.5,0.0.0.9,1.0.1.1", []int{0}},
		{"2h3.0.0.20,0.0.0.9", []int{0}},
		{"2h0.0.0.10,4.0.1.10,2.5.0.2", []int{0, 1, 2}},
		{"2h0.0.0.9,0.0.0.9", []int{0, 1}},
		{"2h0.0.0.9,1.0.1.1,0.0.0.9,1.1.0.0,5.0.0.5,2.5.0.1", []int{0, 1, 2, 3, 4, 5}},
		{"3h2.5.0.0,0.0.0.0,5.0.0.0", []int{0, 1, 2}},
		{"3h2.5.0.0,0.0.0.0", []int{0}},
		// A puzzle without a solution.
		{"2h0.0.0.11", nil}, {"2h0.0.0.11,5.0.0.5", []int{1}}, {"2h5.0.0.5,0.0.0.11", []int{0}}, {"2h0.0.0.11,0.0.0.12", []int{0, 1}}, {"2h1.0.1.1,1.1.0.1", nil}, {"2h1.0.1.1,1.1.0.1,5.0.0.5", []int{2}},
		// What two clues take out together, neither of them does without the other.
		{"2h1.0.1.0,1.1.0.0,2.3.0.2", []int{0, 1}},
	} {
		wantPuzzle(t, "NeedlessClues", puzzle(r.text), r.needless)
	}
}

func TestLeftByClues(t *testing.T) {
	for _, r := range []struct {
		text string
		left []int
	}{
		{"2h", []int{36}}, {"2h1.0.1.1,0.0.0.9", []int{36, 15, 1}}, {"2h0.0.0.9,1.0.1.1", []int{36, 2, 1}},
		{"2h0.0.0.11,5.0.0.5,0.0.0.9", []int{36, 0, 0, 0}},
		{"2h5.0.0.5,2.5.0.1,1.0.1.1,3.0.0.20,0.0.0.9,4.1.0.9", []int{36, 11, 10, 5, 3, 1, 1}},
		{"3h4.0.2.0,5.0.0.3,3.0.0.20", []int{216, 6, 1, 0}},
		{"3h4.0.2.0,5.0.0.3,3.0.0.2", []int{216, 6, 1, 1}},
		{"4h0.0.0.20,5.0.0.5", []int{1296, 1, 1}},
		{"4h2.0.0.0,2.1.0.0,2.2.0.0,2.3.0.0,2.4.0.0,2.5.0.0", []int{1296, 625, 256, 81, 16, 1, 0}},
	} {
		wantPuzzle(t, "LeftByClues", puzzle(r.text), r.left)
	}
}

func TestBestClues(t *testing.T) {
	for _, r := range []struct {
		text string
		best int
	}{
		{"2h0.0.0.9", 0}, {"2h0.0.0.9,1.0.1.1", 0}, {"2h1.0.1.1,0.0.0.9", 1}, {"2h5.0.0.5,5.0.0.0", 1}, {"2h0.0.0.9,0.0.0.1,1.0.1.1", 0}, {"2h1.0.1.1,0.0.0.9,0.0.0.1", 1},
		{"2h1.0.1.1,1.1.0.1,1.0.1.1", 0}, {"2h1.0.1.0,1.1.0.1,1.0.1.1", 1},
		{"2h0.0.0.11,0.0.0.12", 0}, {"2h5.0.0.0,0.0.0.11,0.0.0.12", 1}, {"3h0.0.0.15,0.0.0.0,2.5.0.3", 0}, {"3h0.0.0.14,0.0.0.1,2.5.0.3", 2},
		{"4h2.0.0.0,2.1.0.0,2.2.0.0,2.3.0.0,2.4.0.0,2.5.0.4", 5}, {"4h5.0.0.5,5.0.0.4,5.0.0.3,5.0.0.2,5.0.0.1,1.0.1.1", 4},
	} {
		wantPuzzle(t, "BestClue", puzzle(r.text), r.best)
	}
}

func TestHarderPuzzles(t *testing.T) {
	for _, r := range []struct{ text, harder string }{
		{"2h0.0.0.10", "2h0.0.0.10"},
		{"2h0.0.0.9,1.0.1.1", "2h0.0.0.9,1.0.1.1"},
		{"2h0.0.0.9,1.0.1.1,5.0.0.5", "2h0.0.0.9,1.0.1.1"},
		{"2h5.0.0.5,0.0.0.9,1.0.1.1", "2h0.0.0.9,1.0.1.1"},
		{"2h0.0.0.9,5.0.0.5,1.0.1.1", "2h0.0.0.9,1.0.1.1"},
		// Each clue is needless alone, but not all of them together.
		{"2h0.0.0.10,4.0.1.10,2.5.0.2", "2h2.5.0.2"},
		{"2h2.5.0.2,4.0.1.10,0.0.0.10", "2h0.0.0.10"},
		{"2h0.0.0.9,0.0.0.9,1.0.1.1,1.0.1.1", "2h0.0.0.9,1.0.1.1"},
		{"2h0.0.0.9,1.0.1.1,0.0.0.9,1.1.0.0,5.0.0.5,2.5.0.1", "2h0.0.0.9,1.1.0.0"},
		{"2h5.0.0.5,5.0.0.5,5.0.0.5,5.0.0.5,5.0.0.5,0.0.0.10", "2h0.0.0.10"},
		{"2h0.0.0.10,5.0.0.5", "2h0.0.0.10"},
		{"3h2.5.0.0,0.0.0.0,5.0.0.0", "3h5.0.0.0"},
		{"4h4.1.3.10,4.0.2.0,0.0.0.10", "4h4.0.2.0,0.0.0.10"},
		{"4h4.1.3.10,0.0.0.10,4.0.2.0", "4h0.0.0.10,4.0.2.0"},
		{"4h0.0.0.10,4.1.3.10,4.0.2.0", "4h4.1.3.10,4.0.2.0"},
	} {
		wantPuzzle(t, "HarderPuzzle", puzzle(r.text), puzzle(r.harder))
		wantPuzzle(t, "NeedlessClues", puzzle(r.harder), []int{})
	}
	for _, text := range []string{"2h", "3h", "4h", "2h0.0.0.9", "2h0.0.0.11", "2h1.0.1.1,1.1.0.1", "2h0.0.0.9,0.0.0.9", "3h2.5.0.2,0.0.0.13", "4h5.0.0.1"} {
		wantNoPuzzle(t, "HarderPuzzle", puzzle(text))
	}
}

func TestCluesThatAreDroppedAndAdded(t *testing.T) {
	six := puzzle("3h0.0.0.9,1.0.1.1,2.3.0.1,3.0.0.2,4.2.0.4,5.0.0.5")
	for k, want := range []string{
		"3h1.0.1.1,2.3.0.1,3.0.0.2,4.2.0.4,5.0.0.5", "3h0.0.0.9,2.3.0.1,3.0.0.2,4.2.0.4,5.0.0.5", "3h0.0.0.9,1.0.1.1,3.0.0.2,4.2.0.4,5.0.0.5",
		"3h0.0.0.9,1.0.1.1,2.3.0.1,4.2.0.4,5.0.0.5", "3h0.0.0.9,1.0.1.1,2.3.0.1,3.0.0.2,5.0.0.5", "3h0.0.0.9,1.0.1.1,2.3.0.1,3.0.0.2,4.2.0.4",
	} {
		wantDropped(t, six, k, puzzle(want))
	}
	wantDropped(t, puzzle("2h0.0.0.9"), 0, puzzle("2h"))
	wantDropped(t, puzzle("4h1.3.0.1,1.3.0.1"), 1, puzzle("4h1.3.0.1"))
	wantPuzzleWith(t, puzzle("2h"), clue("0.0.0.9"), puzzle("2h0.0.0.9"))
	wantPuzzleWith(t, puzzle("2h0.0.0.9"), clue("1.0.1.1"), puzzle("2h0.0.0.9,1.0.1.1"))
	wantPuzzleWith(t, puzzle("2h0.0.0.9"), clue("0.0.0.9"), puzzle("2h0.0.0.9,0.0.0.9"))
	wantPuzzleWith(t, puzzle("2h0.0.0.9"), clue("0.0.0.8"), puzzle("2h0.0.0.9,0.0.0.8"))
	wantPuzzleWith(t, puzzle("3h0.0.0.9,1.0.1.1,2.3.0.1,3.0.0.2,4.2.0.4"), clue("5.0.0.5"), six)
	wantPuzzleWith(t, puzzle("4h"), clue("4.3.0.10"), puzzle("4h4.3.0.10"))
	wantNoPuzzleWith(t, six, clue("0.0.0.9"))
	wantNoPuzzleWith(t, puzzle("3h"), clue("4.3.0.10"))
}

// The numbers z of some seeds, two for each clue, worked out by hand: the seed times 229 and 1951 together are divided
// by 10007, and the rest is the next one.
func TestNumbersOfSeeds(t *testing.T) {
	for _, r := range []struct {
		seed  int
		heaps []int
		z     [12]int
		want  string
	}{
		{0, []int{5, 4}, [12]int{1951, 8422, 9245, 7579, 6331, 735, 147, 5593, 1852, 5765, 1212, 9310}, "2h1.0.1.1,5.0.0.5,1.1.0.0,3.0.0.20,4.1.0.9,0.0.0.9"},
		{0, []int{0, 5, 1}, [12]int{1951, 8422, 9245, 7579, 6331, 735, 147, 5593, 1852, 5765, 1212, 9310}, "3h1.1.2.1,5.0.0.5,1.0.1.0,3.0.0.3,4.2.0.1,0.0.0.6"},
		{0, []int{3, 0, 2, 4}, [12]int{1951, 8422, 9245, 7579, 6331, 735, 147, 5593, 1852, 5765, 1212, 9310}, "4h1.2.3.0,5.0.0.4,1.3.0.1,3.0.0.20,4.1.2.2,0.0.0.9"},
		{1, []int{3, 0, 2, 4}, [12]int{2180, 821, 9834, 2362, 2471, 7418, 9490, 3642, 5388, 4942, 2878, 551}, "4h2.5.0.0,0.0.0.9,5.0.0.4,4.2.3.6,0.0.0.9,4.3.0.7"},
		{2, []int{3, 0, 2, 3}, [12]int{2409, 3227, 416, 7152, 8618, 4094, 8826, 1691, 8924, 4119, 4544, 1799}, "4h3.0.0.2,2.0.0.1,2.2.0.1,0.0.0.8,2.3.0.2,2.5.0.0"},
		{9999, []int{5, 5}, [12]int{119, 9188, 4533, 9287, 7190, 7313, 5459, 1187, 3585, 2342, 7898, 9333}, "2h5.0.0.5,3.0.0.0,2.5.0.2,5.0.0.5,3.0.0.0,2.3.0.0"},
	} {
		z := r.seed
		for _, next := range r.z {
			z = (229*z + 1951) % 10007
			if z != next {
				t.Errorf("the number behind those of the seed %d is %d, not %d", r.seed, z, next)
			}
		}
		p := puzzle(r.want)
		for clues := range 7 {
			wantPuzzleMade(t, r.heaps, clues, r.seed, impl.Puzzle{Heaps: p.Heaps, Clues: p.Clues[:clues]})
		}
	}
}
