package tests

import (
	"slices"
	"strings"
	"testing"

	"loop.example/g01333/impl"
)

func TestConsoleConstants(t *testing.T) {
	if impl.MaxScript != 3000 || impl.MaxLines != 50 {
		t.Error("the constants are", impl.MaxScript, impl.MaxLines)
	}
}

func someDesks() [][]int {
	return [][]int{{0}, {1000}, {5, 1, 0}, {0, 0}, {1000, 0, 1000}, repeated(0, 12), repeated(1000, 12), {0, 1, 2, 3, 4, 5, 6, 7, 8, 9, 10, 11}, append(repeated(0, 11), 1000)}
}

func notDesks() [][]int {
	list := [][]int{nil, {}, {-1}, {1001}, {5, 1, -1}, {-1, 5, 1}, {5, 1001, 0}, {5, 1, 1001}, repeated(0, 13), repeated(1, 13), repeated(5, 3000), append(repeated(0, 11), 1001), append(repeated(1000, 11), -1)}
	for _, n := range wildNumbers {
		list = append(list, []int{n}, []int{5, n}, []int{n, 0, 0}, []int{n, -n})
	}
	return list
}

func TestDesks(t *testing.T) {
	for _, heaps := range someDesks() {
		if !impl.IsDesk(desk(heaps...)) {
			t.Error("no desk:", heaps)
		}
		wantReply(t, heaps, "show", joined(heaps, "-"))
	}
	lines := []string{"", "show", "sum", "heaps 5-1-0", "level 7 3", "move 0 1 1", "pass", "mix 3-0-0/1 0 1", "alike 7-7/1 0", "fly", "sum\n", strings.Repeat("x", 3001)}
	for _, heaps := range notDesks() {
		if impl.IsDesk(impl.Desk{Heaps: heaps}) {
			t.Error("a desk:", heaps)
		}
		for _, line := range lines {
			wantNoLine(t, impl.Desk{Heaps: heaps}, line)
		}
	}
}

func TestLengthOfLines(t *testing.T) {
	for _, heaps := range someDesks() {
		wantReply(t, heaps, "", "what")
		for _, letter := range []string{"x", " ", "0", "\xff"} {
			wantReply(t, heaps, strings.Repeat(letter, 2999), "what")
			wantReply(t, heaps, strings.Repeat(letter, 3000), "what")
			wantNoLine(t, desk(heaps...), strings.Repeat(letter, 3001))
			wantNoLine(t, desk(heaps...), strings.Repeat(letter, 100000))
		}
		wantReply(t, heaps, "heaps "+strings.Repeat("1-", 1497), "what")
		wantReply(t, heaps, "level 1"+strings.Repeat("0", 2991)+" 3", "what")
		wantReply(t, heaps, "show"+strings.Repeat(" ", 2996), "what")
		wantNoLine(t, desk(heaps...), "show"+strings.Repeat(" ", 2997))
	}
}

func TestLinesWithNewlines(t *testing.T) {
	for _, line := range []string{"\n", "sum\n", "\nsum", "su\nm", "sum\nsum", "\n\n", "fly\n", "heaps 1-1\n", "heaps \n1-1", "level 7\n3", strings.Repeat("x", 2999) + "\n", strings.Repeat("\n", 3000)} {
		wantNoLine(t, desk(5, 1, 0), line)
	}
}

func TestScriptsWithoutLines(t *testing.T) {
	wantScript(t, "", nil, []int{5, 1, 0}, nil)
	wantNoScript(t, "sum")
	wantNoScript(t, " ")
	wantNoScript(t, "x")
	wantNoScript(t, "heaps 1-1")
}

func TestNumberOfLines(t *testing.T) {
	for _, lines := range []int{1, 2, 49, 50} {
		wantScript(t, strings.Repeat("sum\n", lines), slices.Repeat([]string{"6"}, lines), []int{5, 1, 0}, nil)
		whats := slices.Repeat([]string{"what"}, lines)
		wantScript(t, strings.Repeat("\n", lines), whats, []int{5, 1, 0}, failedOf(whats))
	}
	for _, lines := range []int{51, 52, 100, 750, 3000} {
		wantNoScript(t, strings.Repeat("\n", lines))
	}
	wantNoScript(t, strings.Repeat("sum\n", 51))
	wantNoScript(t, strings.Repeat("sum\n", 50)+"\n")
	wantNoScript(t, "\n"+strings.Repeat("sum\n", 50))
	wantNoScript(t, strings.Repeat("sum\n", 50)+"sum")
	wantNoScript(t, strings.Repeat("sum\n", 49)+"sum")
	wantScript(t, strings.Repeat("move 0 1 1\nmove 1 0 1\n", 25), slices.Repeat([]string{"4-2-0", "5-1-0"}, 25), []int{5, 1, 0}, nil)
}

func TestLengthOfScripts(t *testing.T) {
	for _, letter := range []string{"x", " ", "\r", "\x00", "\xff"} {
		wantScript(t, strings.Repeat(letter, 2998)+"\n", []string{"what"}, []int{5, 1, 0}, []int{1})
		wantScript(t, strings.Repeat(letter, 2999)+"\n", []string{"what"}, []int{5, 1, 0}, []int{1})
		wantNoScript(t, strings.Repeat(letter, 3000)+"\n")
		wantNoScript(t, strings.Repeat(letter, 2999))
		wantNoScript(t, strings.Repeat(letter, 3000))
	}
	wantScript(t, "pass\n"+strings.Repeat("x", 2990)+"\nsum\n", []string{"3-4-1", "what", "8"}, []int{3, 4, 1}, []int{2})
	wantNoScript(t, "pass\n"+strings.Repeat("x", 2991)+"\nsum\n")
	wantNoScript(t, strings.Repeat("x", 99999)+"\n")
	long := strings.Repeat("most 1024000-1023999-1023997-1/1024 2 00000000000000000000000\n", 50)
	wantNoScript(t, long)
}

func TestScriptsNotEnded(t *testing.T) {
	for _, s := range []string{"sum\nsum", "sum\n ", "sum\n\nx", "sum\r", "\nsum", "\n\x00", "sum\n\r", "pass\nlevel 7 3"} {
		wantNoScript(t, s)
	}
}

func TestScriptsWithEmptyLines(t *testing.T) {
	first := []int{5, 1, 0}
	wantScript(t, "\n", []string{"what"}, first, []int{1})
	wantScript(t, "\n\n", []string{"what", "what"}, first, []int{1, 2})
	wantScript(t, "sum\n\nsum\n", []string{"6", "what", "6"}, first, []int{2})
	wantScript(t, "sum\n\n\nsum\n\n", []string{"6", "what", "what", "6", "what"}, first, []int{2, 3, 5})
	wantScript(t, "\npass\n", []string{"what", "3-4-1"}, []int{3, 4, 1}, []int{1})
}

func TestScriptsOfAnyBytes(t *testing.T) {
	first := []int{5, 1, 0}
	for _, line := range []string{"sum\r", "\rsum", "\r", "sum\t", "\tsum", "\t", "\x00", "sum\x00", "\xff\xfe", "sum\xff", "\xc3\x28", "sum\v", "sum\f", "sum\u0085", "sum\u00a0", "\u2028", "\ufeffsum", "sum\u200b", "level\t7\t3", "level 7\t3", "level\u00a07 3", "heaps 1-1\r", "heaps 1\u20131", "level ７ 3", "level ٧ 3", "ſum", "ſhow", "\\n", "sum;", "sum,show"} {
		wantReply(t, first, line, "what")
		wantScript(t, line+"\nsum\n", []string{"what", "6"}, first, []int{1})
	}
	wantScript(t, "sum\r\npass\r\nshow\n", []string{"what", "what", "5-1-0"}, first, []int{1, 2})
	for b := range 256 {
		if b == '\n' {
			continue
		}
		letter := string([]byte{byte(b)})
		wantReply(t, first, letter, "what")
		wantReply(t, first, "sum"+letter, "what")
		wantReply(t, first, letter+"sum", "what")
		if b != ' ' {
			wantReply(t, first, "level"+letter+"7 3", "what")
			wantReply(t, first, "level 7"+letter+"3", "what")
		}
	}
}

func TestLevelLimits(t *testing.T) {
	first := []int{5, 1, 0}
	wantEffect(t, first, "level 0 1", 0)
	wantEffect(t, first, "level 5 1", 5)
	wantEffect(t, first, "level 1000 1", 1000)
	wantEffect(t, first, "level 1000 12", 84, 84, 84, 84, 83, 83, 83, 83, 83, 83, 83, 83)
	wantEffect(t, first, "level 0 12", repeated(0, 12)...)
	for _, line := range []string{"level 5 0", "level 0 0", "level 5 13", "level 13 13", "level 1001 1", "level 1001 2", "level 1001 12", "level 2000 1", "level 2000 2", "level 12000 12", "level 12001 12", "level 999999 1", "level 999999 999999", "level 0 999999", "level 1001 0", "level 1001 13"} {
		wantReply(t, first, line, "no")
	}
}

func TestMoveLimits(t *testing.T) {
	first := []int{5, 1, 0}
	wantEffect(t, first, "move 0 2 5", 0, 1, 5)
	wantEffect(t, first, "move 0 2 4", 1, 1, 4)
	for _, line := range []string{"move 0 2 6", "move 0 2 999999", "move 1 2 2", "move 2 0 1", "move 0 2 0", "move 2 0 0", "move 0 0 1", "move 0 0 0", "move 0 0 5", "move 1 1 1", "move 2 2 1", "move 0 3 1", "move 3 0 1", "move 3 3 1", "move 3 4 1", "move 0 12 1", "move 12 0 1", "move 0 999999 1", "move 999999 0 1", "move 999999 999999 999999"} {
		wantReply(t, first, line, "no")
	}
	wantEffect(t, []int{999, 1}, "move 1 0 1", 1000, 0)
	wantReply(t, []int{1000, 1}, "move 1 0 1", "no")
	wantReply(t, []int{999, 2}, "move 1 0 2", "no")
	wantEffect(t, []int{999, 2}, "move 1 0 1", 1000, 1)
	wantReply(t, []int{1000, 0, 1000}, "move 2 0 1000", "no")
	wantReply(t, []int{1000, 0, 1000}, "move 0 2 1", "no")
	wantEffect(t, []int{1000, 0, 1000}, "move 2 1 1000", 1000, 1000, 0)
	wantReply(t, []int{7}, "move 0 0 1", "no")
	wantReply(t, []int{7}, "move 0 1 1", "no")
	wantEffect(t, append(repeated(0, 11), 9), "move 11 0 9", append([]int{9}, repeated(0, 11)...)...)
	wantScript(t, scriptOf("heaps 1000-1", "move 1 0 1", "show", "move 0 1 1", "show"), []string{"1000-1", "no", "1000-1", "999-2", "999-2"}, []int{999, 2}, []int{2})
}

func TestHeapsThatAreNoCandies(t *testing.T) {
	for _, line := range []string{"pass", "left", "rest", "end", "given"} {
		for _, heaps := range [][]int{{0}, {7}, {200}, {201, 0}, {0, 201}, {1000, 1000}, append(repeated(4, 11), 201)} {
			wantReply(t, heaps, line, "no")
		}
	}
	wantEffect(t, []int{200, 0}, "pass", 100, 100)
	wantEffect(t, []int{199, 0}, "pass", 100, 100)
	wantEffect(t, []int{200, 0, 0}, "left", 100, 0, 100)
	wantEffect(t, []int{199, 200, 200}, "pass", 200, 200, 200)
	wantEffect(t, append([]int{200}, repeated(0, 11)...), "pass", append([]int{100, 100}, repeated(0, 10)...)...)
	wantReply(t, repeated(200, 12), "rest", "0")
	wantReply(t, repeated(200, 12), "end", "200")
	wantReply(t, []int{199, 199}, "given", "1,1")
}

func TestHeapsThatAreNoRings(t *testing.T) {
	for _, line := range []string{"diff", "lead", "period", "zero", "before"} {
		for _, heaps := range [][]int{{0}, {7}, repeated(1, 11), repeated(0, 12), {0, 1, 2, 3, 4, 5, 6, 7, 8, 9, 10}} {
			wantReply(t, heaps, line, "no")
		}
	}
	wantEffect(t, repeated(1, 10), "diff", repeated(0, 10)...)
	wantEffect(t, []int{1000, 0, 0}, "diff", 1000, 0, 1000)
	wantReply(t, repeated(1, 10), "lead", "1")
	wantReply(t, repeated(1, 10), "zero", "1")
	wantReply(t, append(repeated(0, 9), 1), "period", "30")
	for _, heaps := range [][]int{{0, 0, 1}, {1, 2, 4}, {0, 0, 0, 0, 1}, append(repeated(0, 9), 1), append(repeated(0, 8), 1000)} {
		wantReply(t, heaps, "zero", "no")
	}
}

func TestRingsBeforeInLines(t *testing.T) {
	wantReply(t, []int{100, 100}, "before", "2")
	wantReply(t, []int{101, 101}, "before", "no")
	wantReply(t, []int{0, 101}, "before", "no")
	wantReply(t, []int{100, 0, 101}, "before", "no")
	wantReply(t, []int{100, 99}, "before", "0")
	wantReply(t, []int{1, 1, 1}, "before", "0")
	wantReply(t, repeated(100, 10), "before", "252")
	wantReply(t, repeated(0, 10), "before", "1")
}

func TestHeapsThatCannotBeShared(t *testing.T) {
	lines := []string{"few", "moves", "line", "flows", "ring", "around"}
	for _, heaps := range [][]int{{1, 0}, {3, 1, 0}, {0, 0, 1}, {1000, 999}, append(repeated(0, 11), 1), append(repeated(1000, 11), 999)} {
		for _, line := range lines {
			wantReply(t, heaps, line, "no")
		}
	}
	wantReply(t, repeated(3, 8), "few", "0")
	wantReply(t, []int{0, 0, 0, 0, 0, 0, 0, 8}, "few", "7")
	for _, heaps := range [][]int{repeated(3, 9), repeated(0, 12), {0, 0, 0, 0, 0, 0, 0, 0, 9}} {
		wantReply(t, heaps, "few", "no")
	}
	wantReply(t, repeated(3, 12), "moves", "-")
	wantReply(t, append(repeated(0, 11), 12), "moves", "11>0:1 11>1:1 11>2:1 11>3:1 11>4:1 11>5:1 11>6:1 11>7:1 11>8:1 11>9:1 11>10:1")
	wantReply(t, append(repeated(0, 11), 12), "flows", "-1,-2,-3,-4,-5,-6,-7,-8,-9,-10,-11")
	wantReply(t, append(repeated(0, 11), 12), "line", "66")
	wantReply(t, append(repeated(0, 11), 12), "ring", "36")
}

func TestMixLimits(t *testing.T) {
	first := []int{5, 1, 0}
	for _, r := range []struct{ line, reply string }{
		{"mix 1-0/524288 0 1", "1-1/1048576"}, {"mix 1-0/1048576 0 1", "no"}, {"mix 1-1/1048576 0 1", "1-1/1048576"}, {"mix 1-3/1048576 1 0", "1-1/524288"}, {"mix 1-0-5/1048576 0 2", "3-0-3/1048576"},
		{"mix 1000-1000/1 0 1", "1000-1000/1"}, {"mix 1000-0/1 0 1", "500-500/1"}, {"mix 1048576000-1/1048576 0 1", "no"}, {"mix 1048575999-1/1048576 0 1", "500-500/1"},
		{"mix 1-2-3-4-5-6/1 5 0", "7-4-6-8-10-7/2"}, {"mix 1-2-3-4-5-6/1 0 5", "7-4-6-8-10-7/2"}, {"mix 1-2-3-4-5-6/1 0 6", "no"}, {"mix 1-2-3-4-5-6/1 6 0", "no"},
		{"mix 1-2/1 0 0", "no"}, {"mix 1-2/1 1 1", "no"}, {"mix 1-2/1 0 2", "no"}, {"mix 1-2/1 2 0", "no"}, {"mix 1-2/1 2 2", "no"}, {"mix 1-2/1 999999 0", "no"}, {"mix 1-2/1 0 999999", "no"},
	} {
		wantReply(t, first, r.line, r.reply)
	}
}

func TestMostAndAlikeLimits(t *testing.T) {
	first := []int{5, 1, 0}
	for _, r := range []struct{ line, reply string }{
		{"most 0-0-0-1/1 0 4", "1/2"}, {"most 0-0-0-1/1 0 5", "no"}, {"most 0-0-0-1/1 0 999999", "no"}, {"most 0-0-0-1/1 3 0", "1/1"}, {"most 0-0-0-1/1 4 0", "no"}, {"most 0-0-0-1/1 999999 0", "no"}, {"most 0-1/1 1 0", "1/1"}, {"most 0-1/1 2 0", "no"},
		{"most 0-0-0-0-1/1 4 0", "no"}, {"most 0-0-0-0-0-1/1 5 0", "no"}, {"most 1-0/1024 0 0", "1/1024"}, {"most 1-0/1024 1 4", "1/2048"}, {"most 1-0/2048 0 0", "no"}, {"most 1000-0/1 0 0", "1000/1"}, {"most 1024000-1/1024 0 0", "1000/1"}, {"most 6-1/4 0 0", "3/2"},
		{"alike 7-7/1 5", "0"}, {"alike 7-7/1 6", "no"}, {"alike 7-7/1 999999", "no"}, {"alike 7-6/1 0", "no"}, {"alike 7-6/1 1", "1"}, {"alike 1-0/1024 1", "1"}, {"alike 1-0/2048 1", "no"}, {"alike 1-1/2048 0", "no"},
		{"alike 1-1-1-1/1 0", "0"}, {"alike 1-1-1-1-1/1 0", "no"}, {"alike 1-1-1-1-1-1/1 5", "no"}, {"alike 1-0-0/1 5", "no"}, {"alike 1-3-2/1 1", "1"},
	} {
		wantReply(t, first, r.line, r.reply)
	}
}
