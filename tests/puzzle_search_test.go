package tests

import (
	"fmt"
	"slices"
	"testing"

	"loop.example/g01333/impl"
)

// The searches of this file know only what clues tell, and try all hidden heaps.

// singleStonesToEqual has for all heaps that can be made equal, as texts, how many stones are carried until they are, if
// each is carried alone: found from equal heaps backwards.
func singleStonesToEqual(size int) map[string]int {
	found := map[string]int{}
	for share := range 6 {
		round := [][]int{repeated(share, size)}
		found[fmt.Sprint(round[0])] = 0
		for steps := 1; len(round) > 0; steps++ {
			var next [][]int
			for _, heaps := range round {
				eachCarried(heaps, func(behind []int) {
					key := fmt.Sprint(behind)
					if _, known := found[key]; !known {
						found[key] = steps
						next = append(next, behind)
					}
				})
			}
			round = next
		}
	}
	return found
}

// eachCarried calls do with all heaps behind one stone that is carried.
func eachCarried(heaps []int, do func([]int)) {
	for from := range heaps {
		for to := range heaps {
			if from != to && heaps[from] > 0 {
				behind := slices.Clone(heaps)
				behind[from]--
				behind[to]++
				do(behind)
			}
		}
	}
}

// A puzzleSearch has all hidden heaps of some number, in order, and which of them fit a clue.
type puzzleSearch struct {
	heaps   int
	all     [][]int
	toEqual map[string]int
	clues   []impl.Clue
	fitting map[impl.Clue][]bool
}

func newPuzzleSearch(heaps int) *puzzleSearch {
	s := &puzzleSearch{heaps: heaps, toEqual: singleStonesToEqual(heaps), clues: cluesOf(heaps), fitting: map[impl.Clue][]bool{}}
	eachList(heaps, 5, func(list []int) { s.all = append(s.all, list) })
	for _, c := range s.clues {
		s.fitting[c] = make([]bool, len(s.all))
		for k, list := range s.all {
			s.fitting[c][k] = s.isTrue(c, list)
		}
	}
	return s
}

func (s *puzzleSearch) isTrue(c impl.Clue, heaps []int) bool {
	switch c.Kind {
	case 0:
		return totalOf(heaps) == c.C
	case 1:
		return (heaps[c.A] > heaps[c.B]) == (c.C == 1)
	case 2:
		for _, n := range heaps {
			if n == c.A {
				c.C--
			}
		}
		return c.C == 0
	case 3:
		stones, canBe := s.toEqual[fmt.Sprint(heaps)]
		return canBe && stones == c.C || !canBe && c.C == 20
	case 4:
		return heaps[c.A]+heaps[c.B] == c.C
	case 5:
		return slices.Contains(heaps, c.C) && !slices.ContainsFunc(heaps, func(n int) bool { return n > c.C })
	}
	panic(fmt.Sprint("no kind of clue: ", c))
}

func (s *puzzleSearch) solutions(clues []impl.Clue) [][]int {
	var found [][]int
	for k, heaps := range s.all {
		if !slices.ContainsFunc(clues, func(c impl.Clue) bool { return !s.fitting[c][k] }) {
			found = append(found, heaps)
		}
	}
	return found
}

func (s *puzzleSearch) count(clues []impl.Clue) int {
	return len(s.solutions(clues))
}

func sureOf(solutions [][]int) []int {
	sure := slices.Clone(solutions[0])
	for place := range sure {
		for _, heaps := range solutions {
			if heaps[place] != solutions[0][place] {
				sure[place] = -1
			}
		}
	}
	return sure
}

// checkPuzzle holds all that is told of a puzzle against what the search finds.
func checkPuzzle(t *testing.T, s *puzzleSearch, p impl.Puzzle) {
	t.Helper()
	solutions := s.solutions(p.Clues)
	wantPuzzle(t, "Solutions", p, solutions)
	wantPuzzle(t, "CountSolutions", p, len(solutions))
	wantPuzzle(t, "IsSolved", p, len(solutions) == 1)
	if len(solutions) > 0 {
		wantPuzzle(t, "FirstSolution", p, solutions[0])
		wantPuzzle(t, "SureHeaps", p, sureOf(solutions))
	} else {
		wantNoPuzzle(t, "FirstSolution", p)
		wantNoPuzzle(t, "SureHeaps", p)
	}
	checkLeft(t, s, p)
	checkNeedless(t, s, p)
	checkHarder(t, s, p)
}

func checkLeft(t *testing.T, s *puzzleSearch, p impl.Puzzle) {
	t.Helper()
	var left []int
	best, fewest := 0, len(s.all)+1
	for k := range len(p.Clues) + 1 {
		left = append(left, s.count(p.Clues[:k]))
		if k < len(p.Clues) && s.count(p.Clues[k:k+1]) < fewest {
			best, fewest = k, s.count(p.Clues[k:k+1])
		}
	}
	wantPuzzle(t, "LeftByClues", p, left)
	got, _ := impl.LeftByClues(p)
	for k := 1; k < len(got); k++ {
		if got[k] > got[k-1] {
			t.Errorf("LeftByClues of %s grows: %v", puzzleText(p), got)
		}
	}
	if len(p.Clues) > 0 {
		wantPuzzle(t, "BestClue", p, best)
	} else {
		wantNoPuzzle(t, "BestClue", p)
	}
}

// checkNeedless asks also the puzzles without each clue, and with it again.
func checkNeedless(t *testing.T, s *puzzleSearch, p impl.Puzzle) {
	t.Helper()
	var needless []int
	for k, c := range p.Clues {
		fewer := without(p.Clues, k)
		if s.count(fewer) == s.count(p.Clues) {
			needless = append(needless, k)
		}
		wantDropped(t, p, k, impl.Puzzle{Heaps: p.Heaps, Clues: fewer})
		dropped, _ := impl.DropClue(p, k)
		wantPuzzle(t, "CountSolutions", dropped, s.count(fewer))
		wantPuzzleWith(t, dropped, c, impl.Puzzle{Heaps: p.Heaps, Clues: append(fewer, c)})
		again, _ := impl.AddClue(dropped, c)
		wantDropped(t, again, len(fewer), dropped)
		wantPuzzle(t, "CountSolutions", again, s.count(p.Clues))
	}
	wantPuzzle(t, "NeedlessClues", p, needless)
}

func checkHarder(t *testing.T, s *puzzleSearch, p impl.Puzzle) {
	t.Helper()
	solutions := s.solutions(p.Clues)
	if len(solutions) != 1 {
		wantNoPuzzle(t, "HarderPuzzle", p)
		return
	}
	isOut := make([]bool, len(p.Clues))
	left := func() []impl.Clue {
		var clues []impl.Clue
		for k, c := range p.Clues {
			if !isOut[k] {
				clues = append(clues, c)
			}
		}
		return clues
	}
	for k := range isOut {
		isOut[k] = true
		isOut[k] = s.count(left()) == 1
	}
	wantPuzzle(t, "HarderPuzzle", p, impl.Puzzle{Heaps: p.Heaps, Clues: left()})
	harder, _ := impl.HarderPuzzle(p)
	wantPuzzle(t, "Solutions", harder, solutions)
	wantPuzzle(t, "NeedlessClues", harder, []int{})
	wantPuzzle(t, "HarderPuzzle", harder, harder)
}

// someTrueClues are clues that hidden heaps fit.
func someTrueClues(next func(int) int, s *puzzleSearch, heaps []int, count int) []impl.Clue {
	place := slices.IndexFunc(s.all, func(list []int) bool { return slices.Equal(list, heaps) })
	var clues []impl.Clue
	for len(clues) < count {
		if c := s.clues[next(len(s.clues))]; s.fitting[c][place] {
			clues = append(clues, c)
		}
	}
	return clues
}

func TestEachClueAlone(t *testing.T) {
	for heaps := 2; heaps <= 4; heaps++ {
		s := newPuzzleSearch(heaps)
		checkPuzzle(t, s, impl.Puzzle{Heaps: heaps})
		for _, c := range s.clues {
			checkPuzzle(t, s, impl.Puzzle{Heaps: heaps, Clues: []impl.Clue{c}})
			for k, list := range s.all {
				if heaps < 4 || k%7 == 0 {
					wantFits(t, c, list, s.fitting[c][k])
				}
			}
		}
	}
}

func TestAllTwoCluesOfTwoHeaps(t *testing.T) {
	s := newPuzzleSearch(2)
	for _, one := range s.clues {
		for _, other := range s.clues {
			checkPuzzle(t, s, impl.Puzzle{Heaps: 2, Clues: []impl.Clue{one, other}})
		}
	}
}

// Each solution fits all clues, and no other hidden heaps do, as DoesFit tells it.
func TestSolutionsAreThoseThatFit(t *testing.T) {
	next := random(91)
	for heaps := 2; heaps <= 4; heaps++ {
		s := newPuzzleSearch(heaps)
		for range 40 {
			p := impl.Puzzle{Heaps: heaps, Clues: someTrueClues(next, s, s.all[next(len(s.all))], next(4))}
			var fitting [][]int
			for _, list := range s.all {
				doAll := true
				for _, c := range p.Clues {
					fits, ok := impl.DoesFit(c, list)
					doAll = doAll && fits && ok
				}
				if doAll {
					fitting = append(fitting, list)
				}
			}
			wantPuzzle(t, "Solutions", p, fitting)
			if !slices.IsSortedFunc(fitting, slices.Compare[[]int]) {
				t.Errorf("%v are not in order", fitting)
			}
		}
	}
}

func TestSomePuzzles(t *testing.T) {
	next := random(92)
	solved, unsolvable, taken := 0, 0, 0
	for heaps := 2; heaps <= 4; heaps++ {
		s := newPuzzleSearch(heaps)
		for range 300 {
			p := impl.Puzzle{Heaps: heaps, Clues: someTrueClues(next, s, s.all[next(len(s.all))], next(7))}
			if len(p.Clues) > 0 && next(4) == 0 {
				p.Clues[next(len(p.Clues))] = s.clues[next(len(s.clues))]
			}
			if len(p.Clues) > 1 && next(4) == 0 {
				p.Clues[next(len(p.Clues))] = p.Clues[next(len(p.Clues))]
			}
			checkPuzzle(t, s, p)
			switch s.count(p.Clues) {
			case 0:
				unsolvable++
			case 1:
				solved++
				harder, _ := impl.HarderPuzzle(p)
				if len(p.Clues)-len(harder.Clues) > 1 {
					taken++
				}
			}
		}
	}
	if solved < 100 || unsolvable < 50 || taken < 50 {
		t.Error("of the puzzles were solved, without a solution, and rid of more than one clue:", solved, unsolvable, taken)
	}
}

// madeBy makes a puzzle from the numbers z, one after the other.
func madeBy(s *puzzleSearch, place int, clues int, seed int) impl.Puzzle {
	numbers := []int{seed}
	for len(numbers) < 1+2*clues {
		numbers = append(numbers, (229*numbers[len(numbers)-1]+1951)%10007)
	}
	p := impl.Puzzle{Heaps: s.heaps}
	for k := 1; k < len(numbers); k += 2 {
		kind, y := numbers[k]%6, numbers[k+1]
		told := impl.Clue{Kind: kind}
		if kind == 1 || kind == 4 {
			told.A, told.B = y%s.heaps, (y+1)%s.heaps
		}
		if kind == 2 {
			told.A = y % 6
		}
		for _, c := range s.clues {
			if c.Kind == told.Kind && c.A == told.A && c.B == told.B && s.fitting[c][place] {
				p.Clues = append(p.Clues, c)
			}
		}
	}
	return p
}

func TestPuzzlesThatAreMade(t *testing.T) {
	next := random(93)
	for heaps := 2; heaps <= 4; heaps++ {
		s := newPuzzleSearch(heaps)
		for seed := range 10000 {
			place, clues := next(len(s.all)), next(7)
			if seed == 0 || seed == 9999 {
				clues = 6
			}
			want := madeBy(s, place, clues, seed)
			if len(want.Clues) != clues {
				t.Fatalf("the search makes %d clues, not %d, of %v and %d", len(want.Clues), clues, s.all[place], seed)
			}
			wantPuzzleMade(t, s.all[place], clues, seed, want)
			if seed%50 == 0 {
				checkMade(t, s, place, want)
			}
		}
	}
}

// checkMade asks for what a made puzzle has to be: all its clues are some, and the hidden heaps are a solution.
func checkMade(t *testing.T, s *puzzleSearch, place int, p impl.Puzzle) {
	t.Helper()
	wantIsPuzzle(t, p, true)
	for _, c := range p.Clues {
		wantIsClue(t, p.Heaps, c, true)
		wantFits(t, c, s.all[place], true)
	}
	solutions, _ := impl.Solutions(p)
	if !slices.ContainsFunc(solutions, func(list []int) bool { return slices.Equal(list, s.all[place]) }) {
		t.Errorf("%v is no solution of %s", s.all[place], puzzleText(p))
	}
	checkPuzzle(t, s, p)
}
