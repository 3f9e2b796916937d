package tests

import (
	"fmt"
	"slices"
	"strings"
	"testing"

	"loop.example/g01333/impl"
)

func checkWordCalls(t *testing.T, heaps []int) {
	t.Helper()
	for _, c := range wordCalls() {
		wantCalled(t, heaps, c)
	}
}

func TestWordsOnAllSmallHeaps(t *testing.T) {
	eachList(1, 12, func(heaps []int) { checkWordCalls(t, heaps) })
	eachList(2, 14, func(heaps []int) { checkWordCalls(t, heaps) })
	eachList(3, 7, func(heaps []int) { checkWordCalls(t, heaps) })
	eachList(4, 4, func(heaps []int) { checkWordCalls(t, heaps) })
	eachList(6, 2, func(heaps []int) { checkWordCalls(t, heaps) })
}

// randomHeaps are at each limit of what they may be: heaps, candies, rings, and rings before which there may be some.
func randomHeaps(next func(int) int) []int {
	most := []int{1, 5, 20, 100, 101, 200, 201, 1000}[next(8)]
	heaps := make([]int, 1+next(12))
	for k := range heaps {
		heaps[k] = next(most + 1)
	}
	return heaps
}

// evenedOut takes stones away until they can be shared equally.
func evenedOut(heaps []int) []int {
	for k, stones := range heaps {
		taken := min(stones, sumOf(heaps)%len(heaps))
		heaps[k] -= taken
	}
	return heaps
}

func TestWordsOnManyHeaps(t *testing.T) {
	next := random(10)
	for range 400 {
		checkWordCalls(t, randomHeaps(next))
		checkWordCalls(t, evenedOut(randomHeaps(next)))
	}
	for _, heaps := range someDesks() {
		checkWordCalls(t, heaps)
	}
}

func TestHeapsLinesOnManyHeaps(t *testing.T) {
	next := random(11)
	for range 2000 {
		wantCalled(t, randomHeaps(next), heapsCall(randomHeaps(next)))
	}
}

func TestAllLevels(t *testing.T) {
	for heaps := range 16 {
		for stones := range 40 {
			wantCalled(t, []int{5, 1, 0}, levelCall(stones, heaps))
		}
		for _, stones := range []int{99, 500, 997, 998, 999, 1000, 1001, 1002, 1010, 2000, 11999, 12000, 12001, 999999} {
			wantCalled(t, []int{7}, levelCall(stones, heaps))
		}
	}
}

func TestAllMovesOfSmallHeaps(t *testing.T) {
	for _, heaps := range [][]int{{5, 1, 0}, {0, 4}, {3}, {1000, 999, 998}, {2, 2, 2, 2}, {1000, 0, 1000}} {
		for from := range 6 {
			for to := range 6 {
				for _, count := range []int{0, 1, 2, 3, 4, 5, 6, 7, 998, 999, 1000, 1001, 999999} {
					wantCalled(t, heaps, moveCall(from, to, count))
				}
			}
		}
	}
}

func TestMovesOnManyHeaps(t *testing.T) {
	next := random(12)
	for range 5000 {
		heaps := randomHeaps(next)
		wantCalled(t, heaps, moveCall(next(13), next(13), next(1+2*slices.Max(heaps))))
		wantCalled(t, heaps, moveCall(next(len(heaps)), next(len(heaps)), next(2+slices.Max(heaps))))
	}
}

func TestLinesOfManyCups(t *testing.T) {
	next := random(13)
	for _, unit := range []int{1, 2, 4, 512, 1024, 2048, 1 << 19, 1 << 20} {
		for range 30 {
			parts := make([]int, 2+next(5))
			for k := range parts {
				parts[k] = next(8 * unit)
			}
			parts[0] |= 1
			for range 8 {
				wantCalled(t, []int{5, 1, 0}, mixCall(cups(unit, parts...), next(7), next(7)))
				wantCalled(t, []int{5, 1, 0}, mostCall(cups(unit, parts...), next(6), next(6)))
			}
			wantCalled(t, []int{5, 1, 0}, alikeCall(cups(unit, parts...), next(7)))
		}
	}
}

func TestLinesOfSmallCups(t *testing.T) {
	for _, parts := range [][]int{{0, 0}, {4, 0}, {3, 0, 0}, {3, 6, 3}, {2, 4, 3}, {4, 0, 0, 0}, {4, 0, 4, 0}, {7, 7, 7, 7}, {1, 2, 3, 4, 5}, {1, 1, 1, 1, 1, 1}} {
		for a := range 7 {
			for b := range 7 {
				wantCalled(t, []int{7}, mixCall(cups(1, parts...), a, b))
				wantCalled(t, []int{7}, mostCall(cups(1, parts...), a, b))
			}
			wantCalled(t, []int{7}, alikeCall(cups(1, parts...), a))
		}
	}
}

// someLines are lines of all sorts, so that some of them change the heaps and some of them are refused.
func someLines() []string {
	lines := append(tableLines(), "", " ", "fly", "show ", "sum 1", "Show", "heaps 1001", "heaps 7", "heaps 1000-999-1000-1", "heaps 0-0-0-0-0-0-0-0-0-0-0-1", "heaps 200-0-100-60", "heaps 9-9-9", "heaps 9-9-9 ", "level 1000 1", "level 1001 1", "level 31 11", "level 6 2", "level 6 x",
		"move 0 1 1", "move 1 0 1", "move 1 0 3", "move 2 0 2", "move 3 1 999999", "move 0 1 1000000", "pass", "left", "diff", "mix 1-0/1048576 0 1", "mix 1-2/3 0 1", "most 3-0-0/1 3 2", "alike 3-0-0/1 5", "sum\r", "\xff")
	return lines
}

// checkScript holds a script against its lines, one after the other.
func checkScript(t *testing.T, lines []string) {
	t.Helper()
	d := impl.FirstDesk()
	var replies []string
	for _, line := range lines {
		behind, reply, ok := impl.DeskLine(d, line)
		if !ok || !impl.IsDesk(behind) {
			t.Fatalf("%q on %v: %v, %v", line, d, behind, ok)
		}
		if (reply == "no" || reply == "what") && !slices.Equal(d.Heaps, behind.Heaps) {
			t.Errorf("%q changes %v to %v, but the reply is %q", line, d, behind, reply)
		}
		d, replies = behind, append(replies, reply)
	}
	wantScript(t, scriptOf(lines...), replies, d.Heaps, failedOf(replies))
}

func TestScriptsAreTheirLines(t *testing.T) {
	next := random(14)
	lines := someLines()
	for _, line := range lines {
		checkScript(t, []string{line})
	}
	for _, size := range []int{2, 3, 5, 10, 49, 50} {
		for range 60 {
			script := make([]string, size)
			for k := range script {
				script[k] = lines[next(len(lines))]
			}
			checkScript(t, script)
		}
	}
}

func TestScriptsOfTwoLines(t *testing.T) {
	lines := someLines()
	for _, first := range lines {
		for _, second := range lines {
			checkScript(t, []string{first, second})
		}
	}
}

// Any text cut at its newlines is a script, or fails.
func TestScriptsOfShortTexts(t *testing.T) {
	for size := range 6 {
		eachText(size, "a \n\r0", func(s string) {
			lines := strings.Split(s, "\n")
			if lines[len(lines)-1] != "" {
				wantNoScript(t, s)
				return
			}
			whats := slices.Repeat([]string{"what"}, len(lines)-1)
			wantScript(t, s, whats, []int{5, 1, 0}, failedOf(whats))
		})
	}
}

// A line of the table can be reached from another one by a letter: then its reply is what that one names.
func TestLinesWithALetterChanged(t *testing.T) {
	isOne := map[string]bool{}
	for _, line := range tableLines() {
		isOne[line] = true
	}
	for _, c := range wordCalls() {
		for k := range len(c.line) {
			for letter := range byte(128) {
				line := c.line[:k] + string([]byte{letter}) + c.line[k+1:]
				if letter != '\n' && !isOne[line] {
					wantReply(t, wordDesk, line, "what")
				}
			}
		}
	}
}

func TestRefusedLinesOfLongScripts(t *testing.T) {
	for k := range 50 {
		lines := slices.Repeat([]string{"sum"}, 50)
		lines[k] = "fly"
		replies := slices.Repeat([]string{"6"}, 50)
		replies[k] = "what"
		wantScript(t, scriptOf(lines...), replies, []int{5, 1, 0}, []int{k + 1})
		lines[k], replies[k] = "move 2 0 1", "no"
		wantScript(t, scriptOf(lines...), replies, []int{5, 1, 0}, []int{k + 1})
	}
	lines := slices.Repeat([]string{"fly", "move 0 0 1"}, 25)
	replies := slices.Repeat([]string{"what", "no"}, 25)
	wantScript(t, scriptOf(lines...), replies, []int{5, 1, 0}, failedOf(replies))
	if len(failedOf(replies)) != 50 {
		t.Error(fmt.Sprint("not all lines are refused: ", failedOf(replies)))
	}
}
