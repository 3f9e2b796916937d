package tests

import (
	"slices"
	"testing"

	"loop.example/g01333/impl"
)

// somePuzzles are puzzles of all sorts, and what is none: from some of them every clue can be taken out, from others none.
func somePuzzles() []impl.Puzzle {
	list := append(edgePuzzles(), puzzle("2h0.0.0.9"), puzzle("2h0.0.0.9,1.0.1.1"), puzzle("2h0.0.0.9,1.0.1.1,5.0.0.5"), puzzle("2h5.0.0.5,0.0.0.9,1.0.1.1"), puzzle("2h0.0.0.10,4.0.1.10,2.5.0.2"), puzzle("2h0.0.0.10"), puzzle("2h0.0.0.11"), puzzle("3h2.5.0.2,0.0.0.13"), puzzle("4h4.1.3.10,4.0.2.0,0.0.0.10"),
		puzzle("4h4.1.3.10,4.0.2.0,0.0.0.10,1.0.1.0,5.0.0.5,3.0.0.5"), puzzle("2h0.0.0.9,1.0.1.1,0.0.0.9,1.1.0.0,5.0.0.5,2.5.0.1"))
	return append(list, puzzle("1h"), puzzle("5h"), puzzle("2h0.0.0.21"), puzzle("2h0.0.0.9,6.0.0.0"), puzzle("1h0.0.0.5"), puzzle("2h5.0.0.5,5.0.0.5,5.0.0.5,5.0.0.5,5.0.0.5,5.0.0.5,5.0.0.5"))
}

func TestPuzzlesAndResultsAreApart(t *testing.T) {
	isPuzzle := puzzleCall{"IsPuzzle", func(p impl.Puzzle) []any { return []any{impl.IsPuzzle(p)} }}
	for _, c := range append(allPuzzleCalls(), isPuzzle, dropCall(2), dropCall(-1)) {
		for _, p := range somePuzzles() {
			what := c.name + " of " + puzzleText(p)
			want := copied(c.call(impl.Puzzle{Heaps: p.Heaps, Clues: slices.Clone(p.Clues)}))
			for _, mark := range []impl.Clue{clue("5.0.0.5"), clue("4.0.1.9"), clue("9.9.9.9"), {}} {
				g := guard(p.Clues, mark)
				marked := impl.Puzzle{Heaps: p.Heaps, Clues: g.list}
				first := c.call(marked)
				second := c.call(marked)
				wantSame(t, what+" with room behind", first, want...)
				g.check(t, what)
				spoil(first)
				g.check(t, what+", its result overwritten")
				wantSame(t, what+" again, the first result overwritten", second, want...)
				wantSame(t, what+" once more", c.call(marked), want...)
			}
		}
	}
}

func TestHiddenHeapsAndResultsAreApart(t *testing.T) {
	calls := []heapCall{
		{"DoesFit of stones", func(h []int) []any { a, ok := impl.DoesFit(clue("0.0.0.9"), h); return []any{a, ok} }},
		{"DoesFit of stones to move", func(h []int) []any { a, ok := impl.DoesFit(clue("3.0.0.1"), h); return []any{a, ok} }},
		{"DoesFit of the greatest", func(h []int) []any { a, ok := impl.DoesFit(clue("5.0.0.5"), h); return []any{a, ok} }},
		{"MakePuzzle with 0", func(h []int) []any { a, ok := impl.MakePuzzle(h, 0, 0); return []any{a, ok} }},
		{"MakePuzzle with 6", func(h []int) []any { a, ok := impl.MakePuzzle(h, 6, 0); return []any{a, ok} }},
	}
	checkApart(t, calls, [][]int{{}, {1}, {5, 4}, {0, 0}, {5, 3, 1}, {5, 5, 5, 5}, {1, 0, 3, 2}, {6, 1}, {1, 1, 1, 1, 1}})
}

func TestSolutionsAreApart(t *testing.T) {
	for _, text := range []string{"2h", "2h0.0.0.5", "2h0.0.0.9,1.0.1.1", "3h2.5.0.2,0.0.0.13", "4h0.0.0.19"} {
		checkInnerApart(t, "Solutions of "+text, func() [][]int {
			solutions, _ := impl.Solutions(puzzle(text))
			return solutions
		})
	}
}

// Whoever appends to a puzzle that was cut changes neither the one that it was cut from nor another one.
func TestCluesAppendedToResults(t *testing.T) {
	g := guard([]impl.Clue{clue("0.0.0.9"), clue("1.0.1.1"), clue("5.0.0.5")}, clue("9.9.9.9"))
	p := impl.Puzzle{Heaps: 2, Clues: g.list}
	for k := range 3 {
		dropped, _ := impl.DropClue(p, k)
		one := append(dropped.Clues, clue("2.0.0.0"))
		g.check(t, "a clue appended behind DropClue")
		again, _ := impl.DropClue(p, k)
		other := append(again.Clues, clue("2.1.0.0"))
		if one[2] != clue("2.0.0.0") || other[2] != clue("2.1.0.0") {
			t.Error("appended clues became", one, other)
		}
	}
	one, _ := impl.AddClue(p, clue("2.0.0.0"))
	other, _ := impl.AddClue(p, clue("2.1.0.0"))
	g.check(t, "AddClue twice")
	if one.Clues[3] != clue("2.0.0.0") || other.Clues[3] != clue("2.1.0.0") {
		t.Error("added clues became", one, other)
	}
	harder, _ := impl.HarderPuzzle(impl.Puzzle{Heaps: 2, Clues: g.list[:2]})
	wantPuzzleWith(t, harder, clue("2.0.0.0"), puzzle("2h0.0.0.9,1.0.1.1,2.0.0.0"))
	harder.Clues = append(harder.Clues, clue("2.0.0.0"))
	harder.Clues[0] = clue("2.1.0.0")
	g.check(t, "a clue appended behind HarderPuzzle")
}

func TestPuzzlesOfOneTextAreNew(t *testing.T) {
	for range 3 {
		p, ok := impl.ParsePuzzle("3h2.5.0.2,0.0.0.13")
		wantSame(t, "ParsePuzzle", []any{p, ok}, puzzle("3h2.5.0.2,0.0.0.13"), true)
		spoil([]any{p})
		made, ok := impl.MakePuzzle([]int{5, 4}, 2, 0)
		wantSame(t, "MakePuzzle", []any{made, ok}, puzzle("2h1.0.1.1,5.0.0.5"), true)
		spoil([]any{made})
	}
}

func TestPuzzleCallsAtTheSameTime(t *testing.T) {
	for _, text := range []string{"3h2.5.0.2,0.0.0.13", "2h0.0.0.9,1.0.1.1,0.0.0.9,1.1.0.0,5.0.0.5,2.5.0.1", "2h0.0.0.21"} {
		checkAtTheSameTime(t, onPuzzle(puzzle(text), allPuzzleCalls()), nil, 20)
	}
}
