package tests

import (
	"fmt"
	"slices"
	"testing"

	"loop.example/g01333/impl"
)

func TestPuzzleConstants(t *testing.T) {
	if impl.MaxHidden != 5 || impl.MaxClues != 6 {
		t.Error("the constants are", impl.MaxHidden, impl.MaxClues)
	}
}

// eachClueOf calls do with all clues of so many heaps: there are some of 2, 3 and 4 heaps alone.
func eachClueOf(heaps int, do func(impl.Clue)) {
	if heaps < 2 || heaps > 4 {
		return
	}
	upTo := func(kind int, a int, b int, most int) {
		for c := range most + 1 {
			do(impl.Clue{Kind: kind, A: a, B: b, C: c})
		}
	}
	upTo(0, 0, 0, 20)
	upTo(3, 0, 0, 20)
	upTo(5, 0, 0, 5)
	for stones := range 6 {
		upTo(2, stones, 0, heaps)
	}
	for a := range heaps {
		for b := range heaps {
			if a != b {
				upTo(1, a, b, 1)
				upTo(4, a, b, 10)
			}
		}
	}
}

func cluesOf(heaps int) []impl.Clue {
	var clues []impl.Clue
	eachClueOf(heaps, func(c impl.Clue) { clues = append(clues, c) })
	return clues
}

func TestAllClues(t *testing.T) {
	for heaps := -2; heaps <= 8; heaps++ {
		isOne := map[impl.Clue]bool{}
		eachClueOf(heaps, func(c impl.Clue) { isOne[c] = true })
		for kind := -2; kind <= 7; kind++ {
			for a := -2; a <= 9; a++ {
				for b := -2; b <= 9; b++ {
					for c := -2; c <= 22; c++ {
						wantIsClue(t, heaps, impl.Clue{Kind: kind, A: a, B: b, C: c}, isOne[impl.Clue{Kind: kind, A: a, B: b, C: c}])
					}
				}
			}
		}
	}
}

// The limits that the document names, one by one.
func TestCluesByTheLeast(t *testing.T) {
	for _, r := range []struct {
		heaps int
		text  string
		want  bool
	}{
		{2, "0.0.0.-1", false}, {2, "0.0.0.0", true}, {2, "0.0.0.20", true}, {2, "0.0.0.21", false}, {2, "0.1.0.5", false}, {2, "0.0.1.5", false}, {2, "0.-1.0.5", false}, {2, "0.0.-1.5", false},
		{2, "1.0.1.-1", false}, {2, "1.0.1.0", true}, {2, "1.0.1.1", true}, {2, "1.0.1.2", false}, {2, "1.1.0.1", true}, {2, "1.0.0.1", false}, {2, "1.1.1.0", false}, {2, "1.-1.0.1", false}, {2, "1.0.-1.1", false}, {2, "1.2.0.1", false}, {2, "1.0.2.1", false}, {3, "1.2.0.1", true}, {3, "1.0.2.1", true}, {3, "1.3.0.1", false}, {3, "1.0.3.1", false}, {4, "1.3.0.1", true}, {4, "1.0.3.1", true}, {4, "1.4.3.1", false}, {4, "1.3.4.1", false}, {4, "1.3.3.1", false},
		{2, "2.-1.0.1", false}, {2, "2.0.0.1", true}, {2, "2.5.0.1", true}, {2, "2.6.0.1", false}, {2, "2.0.1.1", false}, {2, "2.1.-1.1", false}, {2, "2.5.0.-1", false}, {2, "2.5.0.0", true}, {2, "2.5.0.2", true}, {2, "2.5.0.3", false}, {3, "2.5.0.3", true}, {3, "2.5.0.4", false}, {4, "2.5.0.4", true}, {4, "2.5.0.5", false},
		{2, "3.0.0.-1", false}, {2, "3.0.0.0", true}, {2, "3.0.0.20", true}, {2, "3.0.0.21", false}, {2, "3.1.0.5", false}, {2, "3.0.1.5", false}, {2, "3.0.-1.5", false}, {2, "3.-1.0.5", false},
		{2, "4.0.1.-1", false}, {2, "4.0.1.0", true}, {2, "4.0.1.10", true}, {2, "4.0.1.11", false}, {2, "4.1.0.5", true}, {2, "4.0.0.5", false}, {2, "4.1.1.5", false}, {2, "4.-1.0.5", false}, {2, "4.0.-1.5", false}, {2, "4.2.0.5", false}, {2, "4.0.2.5", false}, {3, "4.2.1.5", true}, {3, "4.1.2.5", true}, {4, "4.3.2.5", true}, {4, "4.4.2.5", false}, {4, "4.2.4.5", false},
		{2, "5.0.0.-1", false}, {2, "5.0.0.0", true}, {2, "5.0.0.5", true}, {2, "5.0.0.6", false}, {2, "5.1.0.5", false}, {2, "5.0.1.5", false}, {2, "5.-1.0.5", false}, {2, "5.0.-1.5", false},
		{2, "-1.0.0.0", false}, {2, "6.0.0.0", false}, {2, "-1.0.1.1", false}, {2, "6.0.1.1", false}, {2, "7.0.0.0", false}, {2, "12.0.0.0", false}, {2, "-6.0.0.0", false},
	} {
		wantIsClue(t, r.heaps, clue(r.text), r.want)
		wantIsPuzzle(t, impl.Puzzle{Heaps: r.heaps, Clues: []impl.Clue{clue(r.text)}}, r.want)
		if !r.want {
			wantNoFit(t, clue(r.text), repeated(1, r.heaps))
			wantNoPuzzleWith(t, impl.Puzzle{Heaps: r.heaps}, clue(r.text))
		}
	}
}

// cluesByNumber have numbers that a clue of so many heaps could have, if there were hidden heaps of any number.
func cluesByNumber(heaps int) []impl.Clue {
	return []impl.Clue{{}, {C: 5}, {C: 20}, {Kind: 3}, {Kind: 3, C: 6}, {Kind: 3, C: 20}, {Kind: 5}, {Kind: 5, C: 5},
		{Kind: 1, A: heaps - 1, B: heaps - 2, C: 1}, {Kind: 1, A: heaps - 1, C: 1}, {Kind: 1, B: heaps - 1}, {Kind: 4, A: heaps - 1, B: heaps - 2, C: 10}, {Kind: 4, A: heaps - 1, C: 3}, {Kind: 4, B: heaps - 1, C: 10},
		{Kind: 2, A: 5}, {Kind: 2, A: 1, C: 2}, {Kind: 2, C: heaps}, {Kind: 2, A: 5, C: heaps}, {Kind: 2, A: 1, C: heaps - 1}}
}

// Of 2, 3 and 4 heaps alone there are clues: of no other number of heaps, even if all numbers of a clue would suit it.
func TestCluesOfHiddenHeapsAlone(t *testing.T) {
	for heaps := 2; heaps <= 4; heaps++ {
		for _, c := range cluesByNumber(heaps) {
			wantIsClue(t, heaps, c, true)
		}
	}
	ofHidden := slices.Concat(cluesOf(2), cluesOf(3), cluesOf(4))
	for _, heaps := range append([]int{-4, -3, -2, 0, 1, 5, 6, 7, 12, 13, 100}, wildNumbers...) {
		for _, c := range slices.Concat(cluesByNumber(heaps), ofHidden, badClues(heaps)) {
			wantIsClue(t, heaps, c, false)
			wantIsPuzzle(t, impl.Puzzle{Heaps: heaps, Clues: []impl.Clue{c}}, false)
			wantNoPuzzleWith(t, impl.Puzzle{Heaps: heaps}, c)
			if heaps >= 0 && heaps <= 100 {
				wantNoFit(t, c, repeated(1, heaps))
			}
		}
	}
}

// badClues are no clues of so many heaps.
func badClues(heaps int) []impl.Clue {
	clues := []impl.Clue{{Kind: -1}, {Kind: 6}, {C: -1}, {C: 21}, {A: 1, C: 5}, {B: 1, C: 5}, {Kind: 1}, {Kind: 1, A: heaps, C: 1}, {Kind: 1, B: heaps, C: 1}, {Kind: 1, A: -1, C: 1}, {Kind: 1, B: -1, C: 1}, {Kind: 1, B: 1, C: 2}, {Kind: 1, B: 1, C: -1}, {Kind: 1, A: 1, B: 1, C: 1},
		{Kind: 2, A: 6}, {Kind: 2, A: -1}, {Kind: 2, B: 1}, {Kind: 2, C: heaps + 1}, {Kind: 2, C: -1}, {Kind: 3, C: -1}, {Kind: 3, C: 21}, {Kind: 3, A: 1}, {Kind: 3, B: 1}, {Kind: 4, C: 5}, {Kind: 4, A: heaps, C: 5}, {Kind: 4, B: heaps, C: 5}, {Kind: 4, A: 1, B: -1, C: 5}, {Kind: 4, A: 1, C: 11}, {Kind: 4, A: 1, C: -1},
		{Kind: 5, C: 6}, {Kind: 5, C: -1}, {Kind: 5, A: 1}, {Kind: 5, B: 1}}
	for _, n := range wildNumbers {
		clues = append(clues, impl.Clue{Kind: n}, impl.Clue{Kind: n, A: n, B: n, C: n})
		for kind := range 6 {
			for _, c := range []impl.Clue{{A: n, B: 1}, {A: n}, {A: 1, B: n}, {B: n}, {B: 1, C: n}, {C: n}, {A: n, B: -n, C: 1}} {
				c.Kind = kind
				clues = append(clues, c)
			}
		}
	}
	return clues
}

func notPuzzles() []impl.Puzzle {
	seven := slices.Repeat([]impl.Clue{{Kind: 5, C: 5}}, 7)
	list := []impl.Puzzle{{}, {Clues: seven[:6]}, {Clues: seven}}
	for _, heaps := range append([]int{-4, -2, 0, 1, 5, 6, 12, 100}, wildNumbers...) {
		list = append(list, impl.Puzzle{Heaps: heaps}, impl.Puzzle{Heaps: heaps, Clues: seven[:1]}, impl.Puzzle{Heaps: heaps, Clues: []impl.Clue{{Kind: 1, B: 1, C: 1}}}, impl.Puzzle{Heaps: heaps, Clues: seven})
	}
	for heaps := 2; heaps <= 4; heaps++ {
		list = append(list, impl.Puzzle{Heaps: heaps, Clues: seven}, impl.Puzzle{Heaps: heaps, Clues: slices.Repeat(seven, 300)}, impl.Puzzle{Heaps: heaps, Clues: make([]impl.Clue, 7)})
		for _, c := range badClues(heaps) {
			p := impl.Puzzle{Heaps: heaps, Clues: []impl.Clue{c}}
			list = append(list, p, with(p, seven[:5]...), with(impl.Puzzle{Heaps: heaps, Clues: seven[:5]}, c), with(impl.Puzzle{Heaps: heaps, Clues: seven[:2]}, c, seven[0]))
		}
	}
	return list
}

func TestInvalidPuzzles(t *testing.T) {
	for _, p := range notPuzzles() {
		wantIsPuzzle(t, p, false)
		for _, c := range allPuzzleCalls() {
			wantZero(t, c.name+" of "+puzzleText(p), c.call(p))
		}
		for _, k := range []int{-1, 0, len(p.Clues) - 1, len(p.Clues)} {
			wantNotDropped(t, p, k)
		}
		wantNoPuzzleWith(t, p, clue("5.0.0.5"))
		wantNoPuzzleWith(t, p, impl.Clue{})
	}
}

// edgePuzzles are puzzles by the least: of 2 and of 4 heaps, with no clue and with 6.
func edgePuzzles() []impl.Puzzle {
	return []impl.Puzzle{puzzle("2h"), puzzle("3h"), puzzle("4h"), puzzle("2h0.0.0.0"), puzzle("2h0.0.0.20"), puzzle("4h0.0.0.20"), puzzle("4h3.0.0.20"), puzzle("2h5.0.0.0"), puzzle("4h5.0.0.5"), puzzle("2h1.0.1.0"), puzzle("2h1.1.0.1"), puzzle("4h1.3.2.1"), puzzle("4h4.2.3.0"), puzzle("4h4.3.2.10"),
		puzzle("2h2.0.0.0"), puzzle("2h2.5.0.2"), puzzle("4h2.5.0.4"), puzzle("3h0.0.0.7,5.0.0.4,1.1.2.0"), puzzle("2h0.0.0.1,0.0.0.1,0.0.0.1,0.0.0.1,0.0.0.1,0.0.0.1"), puzzle("4h0.0.0.20,1.0.1.0,2.5.0.4,3.0.0.0,4.0.3.10,5.0.0.5"), puzzle("4h0.0.0.0,1.0.1.1,2.5.0.0,3.0.0.19,4.0.3.0,5.0.0.0")}
}

func TestPuzzlesByTheLeast(t *testing.T) {
	for _, p := range edgePuzzles() {
		wantIsPuzzle(t, p, true)
		for _, c := range puzzleCalls() {
			if results := c.call(p); results[1] != true {
				t.Errorf("%s of %s: %v", c.name, puzzleText(p), results)
			}
		}
	}
	for heaps := -3; heaps < 15; heaps++ {
		wantIsPuzzle(t, impl.Puzzle{Heaps: heaps}, heaps >= 2 && heaps <= 4)
	}
	for heaps := 2; heaps <= 4; heaps++ {
		for clues := range 12 {
			wantIsPuzzle(t, impl.Puzzle{Heaps: heaps, Clues: slices.Repeat([]impl.Clue{{C: 5}}, clues)}, clues <= 6)
		}
	}
}

func TestIndicesOfClues(t *testing.T) {
	for _, p := range edgePuzzles() {
		count := len(p.Clues)
		for _, k := range append([]int{-1, -2, -count, -count - 1, count, count + 1, 6, 7}, wildNumbers...) {
			if k < 0 || k >= count {
				wantNotDropped(t, p, k)
			}
		}
		for k := range count {
			wantDropped(t, p, k, impl.Puzzle{Heaps: p.Heaps, Clues: without(p.Clues, k)})
		}
		for _, c := range []impl.Clue{{}, clue("5.0.0.5"), clue("1.1.0.0")} {
			if count == 6 {
				wantNoPuzzleWith(t, p, c)
				continue
			}
			wantPuzzleWith(t, p, c, with(p, c))
			wantDropped(t, with(p, c), count, p)
		}
		for _, c := range badClues(p.Heaps) {
			wantNoPuzzleWith(t, p, c)
		}
	}
}

// notHidden are no hidden heaps: because of how many there are, or because of the stones of one.
func notHidden() [][]int {
	lists := [][]int{nil, {}, {0}, {5}, {1, 1, 1, 1, 1}, {0, 0, 0, 0, 0}, repeated(1, 12), repeated(1, 13), repeated(5, 2000), {-1, 0}, {0, -1}, {6, 0}, {0, 6}, {5, 6}, {6, 5}, {-1, 6}, {0, 0, -1}, {6, 0, 0}, {0, 6, 0}, {5, 5, 6}, {-1, 5, 5, 5}, {5, 5, 5, -1}, {5, 5, 5, 6}, {6, 5, 5, 5}, {5, 6, 5, 5}, {1000, 0}, {6, -1}}
	for _, n := range wildNumbers {
		lists = append(lists, []int{n}, []int{n, 1}, []int{1, n}, []int{n, n}, []int{n, -n}, []int{1, n, 1}, []int{1, 1, 1, n}, repeated(n, 4), repeated(n, 5))
	}
	return lists
}

func TestInvalidHiddenHeaps(t *testing.T) {
	for _, heaps := range notHidden() {
		for _, text := range []string{"0.0.0.5", "1.0.1.0", "1.0.1.1", "2.0.0.1", "2.1.0.0", "3.0.0.20", "3.0.0.0", "4.0.1.2", "5.0.0.1", "5.0.0.5", "6.0.0.0", "0.0.0.21"} {
			wantNoFit(t, clue(text), heaps)
		}
		for _, n := range wildNumbers {
			wantNoFit(t, impl.Clue{Kind: n, A: n, B: n, C: n}, heaps)
		}
		for _, clues := range []int{0, 1, 6, 7, -1} {
			for _, seed := range []int{0, 1, 9999, 10000, -1} {
				wantNoPuzzleMade(t, heaps, clues, seed)
			}
		}
	}
	for _, heaps := range [][]int{{0, 0}, {5, 5}, {0, 5, 2}, {0, 0, 0, 0}, {5, 5, 5, 5}} {
		for _, c := range badClues(len(heaps)) {
			wantNoFit(t, c, heaps)
		}
		for clues := range 7 {
			for _, seed := range []int{0, 1, 5000, 9998, 9999} {
				p, ok := impl.MakePuzzle(heaps, clues, seed)
				if !ok || len(p.Clues) != clues || p.Heaps != len(heaps) {
					t.Errorf("MakePuzzle of %v, %d clues and %d: %v, %v", heaps, clues, seed, p, ok)
				}
			}
			for _, seed := range append([]int{-1, -2, -9999, 10000, 10001, 10006, 10007, 20000}, wildNumbers...) {
				wantNoPuzzleMade(t, heaps, clues, seed)
			}
		}
		for _, clues := range append([]int{-1, -2, 7, 8, 100}, wildNumbers...) {
			for _, seed := range append([]int{0, 1, 9999, 10000}, wildNumbers...) {
				wantNoPuzzleMade(t, heaps, clues, seed)
			}
		}
	}
}

func TestStonesOfHiddenHeaps(t *testing.T) {
	for stones := -3; stones < 12; stones++ {
		for size := 2; size <= 4; size++ {
			for place := range size {
				heaps := repeated(1, size)
				heaps[place] = stones
				_, ok := impl.DoesFit(clue("5.0.0.5"), heaps)
				_, fine := impl.MakePuzzle(heaps, 6, 17)
				if want := stones >= 0 && stones <= 5; ok != want || fine != want {
					t.Errorf("%s: DoesFit succeeds: %v, MakePuzzle succeeds: %v", fmt.Sprint(heaps), ok, fine)
				}
			}
		}
	}
	for size := range 14 {
		_, ok := impl.DoesFit(clue("5.0.0.5"), repeated(1, size))
		_, fine := impl.MakePuzzle(repeated(1, size), 6, 17)
		if want := size >= 2 && size <= 4; ok != want || fine != want {
			t.Errorf("%d heaps: DoesFit succeeds: %v, MakePuzzle succeeds: %v", size, ok, fine)
		}
	}
}
