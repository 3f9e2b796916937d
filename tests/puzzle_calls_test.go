package tests

import (
	"fmt"
	"slices"
	"strconv"
	"strings"
	"testing"

	"loop.example/g01333/impl"
)

// A puzzleCall calls a function with a puzzle, and collects the results.
type puzzleCall struct {
	name string
	call func(p impl.Puzzle) []any
}

// puzzleCalls succeed for all puzzles.
func puzzleCalls() []puzzleCall {
	return []puzzleCall{
		{"Solutions", func(p impl.Puzzle) []any { a, ok := impl.Solutions(p); return []any{a, ok} }},
		{"CountSolutions", func(p impl.Puzzle) []any { a, ok := impl.CountSolutions(p); return []any{a, ok} }},
		{"IsSolved", func(p impl.Puzzle) []any { a, ok := impl.IsSolved(p); return []any{a, ok} }},
		{"NeedlessClues", func(p impl.Puzzle) []any { a, ok := impl.NeedlessClues(p); return []any{a, ok} }},
		{"LeftByClues", func(p impl.Puzzle) []any { a, ok := impl.LeftByClues(p); return []any{a, ok} }},
		{"PuzzleText", func(p impl.Puzzle) []any { a, ok := impl.PuzzleText(p); return []any{a, ok} }},
	}
}

// allPuzzleCalls are these, and those that fail for some puzzles.
func allPuzzleCalls() []puzzleCall {
	return append(puzzleCalls(),
		puzzleCall{"FirstSolution", func(p impl.Puzzle) []any { a, ok := impl.FirstSolution(p); return []any{a, ok} }},
		puzzleCall{"SureHeaps", func(p impl.Puzzle) []any { a, ok := impl.SureHeaps(p); return []any{a, ok} }},
		puzzleCall{"BestClue", func(p impl.Puzzle) []any { a, ok := impl.BestClue(p); return []any{a, ok} }},
		puzzleCall{"HarderPuzzle", func(p impl.Puzzle) []any { a, ok := impl.HarderPuzzle(p); return []any{a, ok} }},
		dropCall(0), dropCall(1), dropCall(5), addCall("0.0.0.9"), addCall("4.0.1.10"))
}

func dropCall(k int) puzzleCall {
	return puzzleCall{fmt.Sprint("DropClue ", k), func(p impl.Puzzle) []any { a, ok := impl.DropClue(p, k); return []any{a, ok} }}
}

func addCall(text string) puzzleCall {
	return puzzleCall{"AddClue " + text, func(p impl.Puzzle) []any { a, ok := impl.AddClue(p, clue(text)); return []any{a, ok} }}
}

// onPuzzle calls with one puzzle, whatever the list is.
func onPuzzle(p impl.Puzzle, calls []puzzleCall) []heapCall {
	var list []heapCall
	for _, c := range calls {
		list = append(list, heapCall{c.name, func([]int) []any { return c.call(p) }})
	}
	return list
}

func puzzleCallNamed(name string) puzzleCall {
	for _, c := range allPuzzleCalls() {
		if c.name == name {
			return c
		}
	}
	panic("no function of puzzles is called " + name)
}

func wantPuzzle(t *testing.T, name string, p impl.Puzzle, want any) {
	t.Helper()
	wantSame(t, name+" of "+puzzleText(p), puzzleCallNamed(name).call(p), want, true)
}

func wantNoPuzzle(t *testing.T, name string, p impl.Puzzle) {
	t.Helper()
	wantZero(t, name+" of "+puzzleText(p), puzzleCallNamed(name).call(p))
}

func wantDropped(t *testing.T, p impl.Puzzle, k int, want impl.Puzzle) {
	t.Helper()
	wantSame(t, fmt.Sprint("DropClue ", k, " of ", puzzleText(p)), dropCall(k).call(p), want, true)
}

func wantNotDropped(t *testing.T, p impl.Puzzle, k int) {
	t.Helper()
	wantZero(t, fmt.Sprint("DropClue ", k, " of ", puzzleText(p)), dropCall(k).call(p))
}

func wantPuzzleWith(t *testing.T, p impl.Puzzle, c impl.Clue, want impl.Puzzle) {
	t.Helper()
	more, ok := impl.AddClue(p, c)
	wantSame(t, fmt.Sprint("AddClue ", c, " to ", puzzleText(p)), []any{more, ok}, want, true)
}

func wantNoPuzzleWith(t *testing.T, p impl.Puzzle, c impl.Clue) {
	t.Helper()
	more, ok := impl.AddClue(p, c)
	wantZero(t, fmt.Sprint("AddClue ", c, " to ", puzzleText(p)), []any{more, ok})
}

func wantFits(t *testing.T, c impl.Clue, heaps []int, want bool) {
	t.Helper()
	fits, ok := impl.DoesFit(c, heaps)
	wantSame(t, fmt.Sprint("DoesFit of ", c, " and ", heaps), []any{fits, ok}, want, true)
}

func wantNoFit(t *testing.T, c impl.Clue, heaps []int) {
	t.Helper()
	fits, ok := impl.DoesFit(c, heaps)
	wantZero(t, fmt.Sprintf("DoesFit of %v and %.60s", c, fmt.Sprint(heaps)), []any{fits, ok})
}

func wantIsClue(t *testing.T, heaps int, c impl.Clue, want bool) {
	t.Helper()
	if got := impl.IsClue(heaps, c); got != want {
		t.Errorf("IsClue of %d heaps and %v is %v", heaps, c, got)
	}
}

func wantIsPuzzle(t *testing.T, p impl.Puzzle, want bool) {
	t.Helper()
	if got := impl.IsPuzzle(p); got != want {
		t.Errorf("IsPuzzle of %s is %v", puzzleText(p), got)
	}
}

func wantPuzzleMade(t *testing.T, heaps []int, clues int, seed int, want impl.Puzzle) {
	t.Helper()
	p, ok := impl.MakePuzzle(heaps, clues, seed)
	wantSame(t, fmt.Sprint("MakePuzzle of ", heaps, ", ", clues, " clues and ", seed), []any{p, ok}, want, true)
}

func wantNoPuzzleMade(t *testing.T, heaps []int, clues int, seed int) {
	t.Helper()
	p, ok := impl.MakePuzzle(heaps, clues, seed)
	wantZero(t, fmt.Sprintf("MakePuzzle of %.60s, %d clues and %d", fmt.Sprint(heaps), clues, seed), []any{p, ok})
}

// puzzle reads a text such as 2h0.0.0.9,1.0.1.1 without the program, clues that are none among them.
func puzzle(text string) impl.Puzzle {
	heaps, words, isPuzzle := strings.Cut(text, "h")
	if !isPuzzle {
		panic("no text of a puzzle: " + text)
	}
	p := impl.Puzzle{Heaps: number(heaps)}
	for word := range strings.SplitSeq(words, ",") {
		if word != "" {
			p.Clues = append(p.Clues, clue(word))
		}
	}
	return p
}

func clue(text string) impl.Clue {
	words := strings.Split(text, ".")
	if len(words) != 4 {
		panic("no text of a clue: " + text)
	}
	return impl.Clue{Kind: number(words[0]), A: number(words[1]), B: number(words[2]), C: number(words[3])}
}

func number(text string) int {
	n, err := strconv.Atoi(text)
	if err != nil {
		panic("no text of a number: " + text)
	}
	return n
}

// puzzleText writes puzzles, and what is none, without the program, as far as it tells enough.
func puzzleText(p impl.Puzzle) string {
	var words []string
	for _, c := range p.Clues[:min(len(p.Clues), 9)] {
		words = append(words, fmt.Sprintf("%d.%d.%d.%d", c.Kind, c.A, c.B, c.C))
	}
	return fmt.Sprintf("%dh%s", p.Heaps, strings.Join(words, ","))
}

func with(p impl.Puzzle, clues ...impl.Clue) impl.Puzzle {
	return impl.Puzzle{Heaps: p.Heaps, Clues: slices.Concat(p.Clues, clues)}
}

func without(clues []impl.Clue, k int) []impl.Clue {
	return slices.Delete(slices.Clone(clues), k, k+1)
}
