package tests

import (
	"strings"
	"testing"

	"loop.example/g01333/impl"
)

func TestConsoleExample(t *testing.T) {
	lines := []string{"share", "moves", "line", "flows", "around", "move 0 2 2", "move 0 1 9", "heaps 3-1-0", "few", "pass", "rest", "end", "heaps 0-1-3-7", "diff", "zero", "lead", "heaps 1-1", "before", "mix 3-0-0/1 0 1", "most 3-0-0/1 2 2", "alike 4-0-0-0/1 3", "level 7 3", "heaps 1001", "fly"}
	replies := []string{"2,0", "0>1:1 0>2:2", "5", "3,2", "1,0,-2", "3-1-2", "no", "3-1-0", "no", "2-3-1", "3", "4", "0-1-3-7", "1-2-4-7", "6", "6", "1-1", "2", "3-3-0/2", "3/2", "3", "3-2-2", "what", "what"}
	wantScript(t, scriptOf(lines...), replies, []int{3, 2, 2}, []int{7, 9, 23, 24})
}

func TestFirstDesk(t *testing.T) {
	wantSame(t, "FirstDesk", []any{impl.FirstDesk()}, desk(5, 1, 0))
	if !impl.IsDesk(impl.FirstDesk()) {
		t.Error("FirstDesk is no desk")
	}
}

func TestLinesWithEffects(t *testing.T) {
	first := []int{5, 1, 0}
	wantEffect(t, first, "heaps 0", 0)
	wantEffect(t, first, "heaps 3-1-0", 3, 1, 0)
	wantEffect(t, first, "heaps 5-1-0", 5, 1, 0)
	wantEffect(t, first, "heaps 1000-0-1000", 1000, 0, 1000)
	wantEffect(t, first, "heaps 0-1-2-3-4-5-6-7-8-9-10-11", 0, 1, 2, 3, 4, 5, 6, 7, 8, 9, 10, 11)
	wantEffect(t, first, "level 7 3", 3, 2, 2)
	wantEffect(t, first, "level 3 7", 1, 1, 1, 0, 0, 0, 0)
	wantEffect(t, first, "move 0 1 5", 0, 6, 0)
	wantEffect(t, first, "move 0 2 2", 3, 1, 2)
	wantEffect(t, first, "move 1 0 1", 6, 0, 0)
	wantEffect(t, first, "move 1 2 1", 5, 0, 1)
	wantEffect(t, first, "pass", 3, 4, 1)
	wantEffect(t, first, "left", 4, 1, 3)
	wantEffect(t, first, "diff", 4, 1, 5)
	wantEffect(t, []int{4, 4, 4}, "pass", 4, 4, 4)
	wantEffect(t, []int{3, 1, 0}, "pass", 2, 3, 1)
	wantEffect(t, []int{4, 0}, "left", 2, 2)
	wantEffect(t, []int{0, 1, 3, 7}, "diff", 1, 2, 4, 7)
	wantEffect(t, []int{0, 0, 1}, "diff", 0, 1, 1)
}

func TestLinesAboutHeaps(t *testing.T) {
	for _, r := range []struct{ heaps, line, reply string }{
		{"5-1-0", "show", "5-1-0"}, {"5-1-0", "sum", "6"}, {"5-1-0", "share", "2,0"}, {"5-1-0", "few", "2"}, {"5-1-0", "moves", "0>1:1 0>2:2"},
		{"5-1-0", "line", "5"}, {"5-1-0", "flows", "3,2"}, {"5-1-0", "ring", "3"}, {"5-1-0", "around", "1,0,-2"},
		{"3-1-3-1", "few", "2"}, {"3-1-3-1", "moves", "0>1:1 2>3:1"}, {"3-1-3-1", "line", "2"}, {"3-1-3-1", "flows", "1,0,1"}, {"3-1-3-1", "ring", "2"}, {"3-1-3-1", "around", "0,-1,0,-1"},
		{"0-1-5", "flows", "-2,-3"}, {"0-1-5", "moves", "2>0:2 2>1:1"}, {"0-1-5", "line", "5"}, {"0-1-5", "ring", "3"}, {"0-1-5", "around", "0,-1,2"},
		{"4-3", "share", "3,1"}, {"0-0-2", "share", "0,2"}, {"1000-1000-1000", "sum", "3000"}, {"1000-1000-1000", "share", "1000,0"}, {"10-20-30-40-50-60-70-80-90-100-110-0", "sum", "660"},
		{"4-0", "around", "0,-2"}, {"4-0", "flows", "2"}, {"4-0", "moves", "0>1:2"}, {"0-20-1", "moves", "1>0:7 1>2:6"},
		{"2-2-2", "moves", "-"}, {"2-2-2", "few", "0"}, {"2-2-2", "flows", "0,0"}, {"2-2-2", "around", "0,0,0"}, {"2-2-2", "line", "0"}, {"2-2-2", "ring", "0"},
		{"7", "show", "7"}, {"7", "sum", "7"}, {"7", "share", "7,0"}, {"7", "few", "0"}, {"7", "moves", "-"}, {"7", "line", "0"}, {"7", "flows", "-"}, {"7", "ring", "0"}, {"7", "around", "0"},
	} {
		wantReply(t, mustParse(t, r.heaps), r.line, r.reply)
	}
}

func TestLinesAboutCandies(t *testing.T) {
	for _, r := range []struct{ heaps, line, reply string }{
		{"3-1-0", "rest", "4"}, {"3-1-0", "end", "4"}, {"3-1-0", "given", "2,4,2"},
		{"4-0", "rest", "1"}, {"4-0", "end", "2"}, {"4-0", "given", "0,0"},
		{"1-1-1", "rest", "1"}, {"1-1-1", "end", "2"}, {"1-1-1", "given", "1,1,1"},
		{"0-0", "rest", "0"}, {"0-0", "end", "0"}, {"200-200", "end", "200"}, {"200-200", "rest", "0"}, {"0-0-0-0-0-0-0-0-0-0-0-0", "given", "0,0,0,0,0,0,0,0,0,0,0,0"},
	} {
		wantReply(t, mustParse(t, r.heaps), r.line, r.reply)
	}
}

func TestLinesAboutRings(t *testing.T) {
	for _, r := range []struct{ heaps, line, reply string }{
		{"0-1-3-7", "zero", "7"}, {"0-1-3-7", "lead", "7"}, {"0-1-3-7", "period", "1"},
		{"0-0-1", "lead", "1"}, {"0-0-1", "period", "3"}, {"0-0-1", "zero", "no"}, {"0-0-1", "before", "0"},
		{"1-1", "before", "2"}, {"0-0", "before", "1"}, {"0-0", "zero", "0"}, {"0-0", "lead", "0"}, {"0-0", "period", "1"},
		{"0-0-0-0-1", "period", "15"}, {"1000-0", "zero", "2"},
	} {
		wantReply(t, mustParse(t, r.heaps), r.line, r.reply)
	}
}

// Cups in a line have nothing to do with the heaps.
func TestLinesAboutCups(t *testing.T) {
	for _, heaps := range [][]int{{5, 1, 0}, {7}, {1000, 1000}, repeated(3, 12)} {
		for _, r := range []struct{ line, reply string }{
			{"mix 3-0-0/1 0 1", "3-3-0/2"}, {"mix 3-0-0/1 1 0", "3-3-0/2"}, {"mix 3-0-0/1 0 2", "3-0-3/2"}, {"mix 3-3-0/2 0 2", "3-6-3/4"}, {"mix 3-0-0/1 1 2", "3-0-0/1"}, {"mix 3-1/2 0 1", "1-1/1"},
			{"most 3-0-0/1 2 2", "3/2"}, {"most 3-0-0/1 2 0", "0/1"}, {"most 3-0-0/1 0 4", "3/1"}, {"most 3-0-0/1 1 0", "0/1"}, {"most 3-0-0/1 0 1", "3/1"}, {"most 3-6-3/4 1 1", "3/2"}, {"most 0-0/1 0 0", "0/1"},
			{"alike 4-0-0-0/1 3", "3"}, {"alike 4-0-0-0/1 5", "3"}, {"alike 4-0-0-0/1 2", "no"}, {"alike 4-0-4-0/1 5", "2"}, {"alike 4-0-4-0/1 1", "no"}, {"alike 7-7/1 0", "0"}, {"alike 3-0-0/1 5", "no"},
		} {
			wantReply(t, heaps, r.line, r.reply)
		}
	}
}

func TestEffectsGoOn(t *testing.T) {
	wantScript(t, scriptOf("pass", "pass", "left", "diff", "sum", "level 12 5", "move 4 0 1", "show"),
		[]string{"3-4-1", "3-4-3", "4-4-4", "0-0-0", "0", "3-3-2-2-2", "4-3-2-2-1", "4-3-2-2-1"}, []int{4, 3, 2, 2, 1}, nil)
	wantScript(t, scriptOf("heaps 7", "pass", "left", "diff", "heaps 7-x", "show", "", "move 0 0 1"),
		[]string{"7", "no", "no", "no", "what", "7", "what", "no"}, []int{7}, []int{2, 3, 4, 5, 7, 8})
	wantScript(t, scriptOf("few", "fly", "sum"), []string{"2", "what", "6"}, []int{5, 1, 0}, []int{2})
}

func TestLinesOfAFirstDesk(t *testing.T) {
	for _, line := range []string{"share", "diff", "fly", "move 0 1 9"} {
		d, reply, ok := impl.DeskLine(impl.FirstDesk(), line)
		wantScript(t, line+"\n", []string{reply}, d.Heaps, failedOf([]string{reply}))
		if !ok || strings.Contains(reply, "\n") {
			t.Error(line, "has the reply", reply)
		}
	}
}

// failedOf returns the numbers of the replies that are no or what.
func failedOf(replies []string) []int {
	var failed []int
	for k, reply := range replies {
		if reply == "no" || reply == "what" {
			failed = append(failed, k+1)
		}
	}
	return failed
}
