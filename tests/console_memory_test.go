package tests

import (
	"fmt"
	"runtime"
	"slices"
	"testing"

	"loop.example/g01333/impl"
)

// deskCalls call with heaps as those of a desk.
func deskCalls() []heapCall {
	calls := []heapCall{{"IsDesk", func(h []int) []any { return []any{impl.IsDesk(impl.Desk{Heaps: h})} }}}
	for _, line := range append(someLines(), "sum\n") {
		calls = append(calls, heapCall{fmt.Sprintf("DeskLine %q", line), func(h []int) []any {
			d, reply, ok := impl.DeskLine(impl.Desk{Heaps: h}, line)
			return []any{d, reply, ok}
		}})
	}
	return calls
}

func deskLists() [][]int {
	return append(someDesks(), []int{}, []int{3, 1, 3, 1}, []int{0, 1, 3, 7}, []int{200, 0}, []int{1000, 1}, []int{1001}, []int{-1, 5}, repeated(1, 13), repeated(1, 10))
}

func TestDesksAndResultsAreApart(t *testing.T) {
	checkApart(t, deskCalls(), deskLists())
}

func TestFirstDesksAreNew(t *testing.T) {
	for range 3 {
		d, other := impl.FirstDesk(), impl.FirstDesk()
		spoil([]any{d})
		wantSame(t, "FirstDesk, another one overwritten", []any{other}, desk(5, 1, 0))
		longer := append(other.Heaps, 9)
		longest := append(impl.FirstDesk().Heaps, 8)
		if longer[3] != 9 || longest[3] != 8 {
			t.Error("appended heaps became", longer, longest)
		}
	}
	wantScript(t, "show\n", []string{"5-1-0"}, []int{5, 1, 0}, nil)
}

// A line that changes nothing returns a copy of the heaps, whatever its reply is.
func TestDesksThatAreLeftAreNew(t *testing.T) {
	for _, line := range []string{"show", "sum", "fly", "", "move 0 0 1", "few", "pass", "heaps 7-7", "level 13 13", "mix 1-1/1 0 1"} {
		d := desk(7, 7)
		if line == "pass" {
			d = desk(8, 8)
		}
		want := slices.Clone(d.Heaps)
		behind, _, _ := impl.DeskLine(d, line)
		again, _, _ := impl.DeskLine(d, line)
		wantSame(t, line, []any{behind, again}, desk(want...), desk(want...))
		spoil([]any{behind})
		wantSame(t, line+", a result overwritten", []any{d, again}, desk(want...), desk(want...))
		spoil([]any{d})
		wantSame(t, line+", the desk overwritten", []any{again}, desk(want...))
	}
}

func TestResultsOfScriptsAreNew(t *testing.T) {
	for _, s := range []string{"", "sum\n", "fly\nmove 0 0 1\nsum\n", "heaps 7-7\nfly\n", "pass\nleft\ndiff\n"} {
		call := func() []any {
			replies, ok := impl.RunScript(s)
			d, okay := impl.DeskAfter(s)
			failed, fine := impl.FailedLines(s)
			return []any{replies, ok, d, okay, failed, fine}
		}
		want := copied(call())
		first, second := call(), call()
		spoil(first)
		wantSame(t, fmt.Sprintf("%q again, the first results overwritten", s), second, want...)
		wantSame(t, fmt.Sprintf("%q once more", s), call(), want...)
	}
}

// What is behind a list's length would change each of these results.
func TestSpareCapacityBehindDesksIsNotRead(t *testing.T) {
	row := []int{3, 1, 3, 1, 1001, -1, 0, 0, 0, 0, 0, 0, 0}
	wantReply(t, row[:4], "sum", "8")
	wantReply(t, row[:3], "sum", "7")
	wantReply(t, row[:1], "flows", "-")
	wantEffect(t, row[:2], "move 0 1 1", 2, 2)
	wantReply(t, row[:2], "move 0 2 1", "no")
	wantEffect(t, row[:3], "diff", 2, 2, 0)
	wantNoLine(t, desk(row[:5]...), "sum")
	wantNoLine(t, desk(row[:0]...), "sum")
	if impl.IsDesk(desk(row[:0]...)) || !impl.IsDesk(desk(row[:4]...)) || impl.IsDesk(desk(row[:5]...)) {
		t.Error("what is behind the heaps tells whether they are a desk")
	}
}

func TestConsoleAtTheSameTime(t *testing.T) {
	checkAtTheSameTime(t, deskCalls(), []int{3, 1, 3, 1}, 20)
	calls := []heapCall{
		{"RunScript", func([]int) []any { a, ok := impl.RunScript(scriptOf(someLines()[:50]...)); return []any{a, ok} }},
		{"DeskAfter", func([]int) []any { a, ok := impl.DeskAfter(scriptOf(someLines()[:50]...)); return []any{a, ok} }},
		{"FailedLines", func([]int) []any { a, ok := impl.FailedLines(scriptOf(someLines()[:50]...)); return []any{a, ok} }},
		{"FirstDesk", func([]int) []any { return []any{impl.FirstDesk()} }},
	}
	checkAtTheSameTime(t, calls, nil, 20)
}

// Goroutines that a line starts have ended their work behind it, and go soon.
func TestConsoleLeavesNoGoroutines(t *testing.T) {
	before := runtime.NumGoroutine()
	for range 20 {
		for _, line := range someLines() {
			impl.DeskLine(impl.FirstDesk(), line)
		}
		impl.RunScript("pass\nleft\nrest\nend\ngiven\nheaps 7\npass\nrest\n")
	}
	for range 100000 {
		if runtime.NumGoroutine() <= before {
			return
		}
		runtime.Gosched()
	}
	t.Errorf("%d goroutines are left, there were %d", runtime.NumGoroutine(), before)
}
