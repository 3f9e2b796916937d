package tests

import (
	"fmt"
	"slices"
	"strings"
	"testing"

	"loop.example/g01333/impl"
)

// wordDesk suits all lines of tableLines: their replies are neither no nor what.
var wordDesk = []int{3, 1, 3, 1}

func tableLines() []string {
	lines := []string{"heaps 3-1-0", "level 7 3", "move 0 1 2", "mix 3-0-0/1 0 1", "most 3-0-0/1 2 2", "alike 4-0-0-0/1 3"}
	for _, c := range wordCalls() {
		lines = append(lines, c.line)
	}
	return lines
}

func TestTableLinesAreUnderstood(t *testing.T) {
	lines := tableLines()
	if len(lines) != 25 {
		t.Error("the table has 25 lines, here are", len(lines))
	}
	for _, line := range lines {
		_, reply, ok := impl.DeskLine(desk(wordDesk...), line)
		if !ok || reply == "no" || reply == "what" || reply == "" {
			t.Errorf("the reply to %q is %q, %v", line, reply, ok)
		}
	}
}

// wantWhat holds a line against desks for which a function that it names would fail as well.
func wantWhat(t *testing.T, line string) {
	t.Helper()
	for _, heaps := range [][]int{wordDesk, {5, 1, 0}, {7}, repeated(1000, 12)} {
		wantReply(t, heaps, line, "what")
	}
}

func TestTooFewAndTooManyWords(t *testing.T) {
	more := []string{"", "0", "1", "3-1-0", "3-0-0/1", "x", "-", "show"}
	for _, line := range tableLines() {
		words := strings.Split(line, " ")
		for k := range words {
			wantWhat(t, strings.Join(slices.Delete(slices.Clone(words), k, k+1), " "))
		}
		for k := range len(words) + 1 {
			for _, word := range append(more, words...) {
				wantWhat(t, strings.Join(slices.Insert(slices.Clone(words), k, word), " "))
			}
		}
		wantWhat(t, line+" 0 1 2 3 4 5")
		wantWhat(t, line+" "+line)
	}
}

func TestBlanksInLines(t *testing.T) {
	for _, line := range tableLines() {
		wantWhat(t, " "+line)
		wantWhat(t, line+" ")
		wantWhat(t, "  "+line)
		wantWhat(t, line+"  ")
		wantWhat(t, " "+line+" ")
		for k := range len(line) {
			if line[k] == ' ' {
				wantWhat(t, line[:k]+" "+line[k:])
				wantWhat(t, line[:k]+"\t"+line[k+1:])
				wantWhat(t, line[:k]+line[k+1:])
			}
		}
	}
	wantWhat(t, " ")
	wantWhat(t, "  ")
	wantWhat(t, "   ")
}

func TestFirstWordsThatAreNone(t *testing.T) {
	for _, line := range tableLines() {
		first, rest, hasMore := strings.Cut(line, " ")
		if hasMore {
			rest = " " + rest
		}
		wantWhat(t, strings.ToUpper(first)+rest)
		for k := range len(first) {
			wantWhat(t, first[:k]+strings.ToUpper(first[k:k+1])+first[k+1:]+rest)
			wantWhat(t, first[:k]+rest)
			wantWhat(t, first[k+1:]+rest)
			wantWhat(t, first[:k]+first[k+1:]+rest)
		}
		for k := range len(first) + 1 {
			for _, letter := range []string{"s", "e", "x", "S", "0", "-", ".", "\r", "\t", "\x00", first[:1]} {
				wantWhat(t, first[:k]+letter+first[k:]+rest)
			}
		}
	}
}

func TestOtherWords(t *testing.T) {
	for _, word := range []string{"fly", "heap", "desk", "help", "quit", "no", "what", "-", "0", "5-1-0", "3-0-0/1", "spread", "equal", "turn", "mirror", "steps", "double", "cycle", "least", "after", "text", "N", "H", "C", "StonesOf", "HeapsText", "#", "//", "\"show\"", "'sum'"} {
		wantWhat(t, word)
		wantWhat(t, word+" 1")
		wantWhat(t, word+" 5-1-0")
		wantWhat(t, word+" 0 1 2")
	}
}

// numberWords have a %s for one number, with all others right.
var numberWords = []string{"level %s 3", "level 7 %s", "move %s 1 2", "move 0 %s 2", "move 0 1 %s", "mix 3-0-0/1 %s 1", "mix 3-0-0/1 0 %s", "most 3-0-0/1 %s 2", "most 3-0-0/1 2 %s", "alike 4-0-0-0/1 %s"}

var notNumbers = []string{"", "1000000", "1000001", "9999999", "2147483648", "4294967296", "4294967297", "9223372036854775807", "9223372036854775808", "18446744073709551616", "18446744073709551617", "99999999999999999999999999", strings.Repeat("1", 2000),
	"00", "01", "007", "000001", "0999999", "0000000", "+0", "+1", "-0", "-1", "-2", "--1", "1-", "-", "+", "a", "1a", "a1", "x", "0x1", "0b1", "0o1", "1e3", "1.0", "1.", ".1", "1_0", "1,0", "1/1", "1-1", "1\t", "\t1", "1\r", "1\x00", "\xff", "１", "٣", "²", "½", "one", "N", "NaN", "Inf"}

func TestWordsThatAreNoNumbers(t *testing.T) {
	for _, form := range numberWords {
		for _, word := range notNumbers {
			wantWhat(t, fmt.Sprintf(form, word))
		}
	}
	// Several words that are none, and such ones beside numbers by which the function fails.
	for _, line := range []string{"level 1001 x", "level x 13", "level 1000000 0", "level 01 01", "move 9 9 x", "move 9 x 0", "move x 9 0", "move x x x", "move 0 0 01", "mix 1-1/1 9 x", "mix 1-1/1 x 9", "most 1-1/1 9 x", "most 1-1/1 x 9", "most 1-1-1-1-1/1 0 00", "alike 1-1-1-1-1/1 01", "alike 1-0-0/1 1000000"} {
		wantWhat(t, line)
	}
}

func TestNumbersInLines(t *testing.T) {
	for _, form := range numberWords {
		for _, word := range []string{"0", "1", "9", "10", "13", "1000", "1001", "99999", "100000", "999998", "999999"} {
			line := fmt.Sprintf(form, word)
			if _, reply, ok := impl.DeskLine(desk(wordDesk...), line); !ok || reply == "what" || reply == "" {
				t.Errorf("the reply to %q is %q, %v", line, reply, ok)
			}
		}
		wantReply(t, wordDesk, fmt.Sprintf(form, "999999"), "no")
		wantReply(t, wordDesk, fmt.Sprintf(form, "1000000"), "what")
	}
	for form, replies := range map[string][2]string{
		"level %s 3": {"0-0-0", "1-0-0"}, "level 7 %s": {"no", "7"}, "move %s 2 1": {"2-1-4-1", "3-0-4-1"}, "move 2 %s 1": {"4-1-2-1", "3-2-2-1"}, "move 0 1 %s": {"no", "2-2-3-1"},
		"mix 3-0-0/1 %s 2": {"3-0-3/2", "3-0-0/1"}, "mix 3-0-0/1 2 %s": {"3-0-3/2", "3-0-0/1"}, "most 3-0-0/1 %s 1": {"3/1", "3/2"}, "most 3-0-0/1 1 %s": {"0/1", "3/2"}, "alike 4-0/1 %s": {"no", "1"},
	} {
		for k, reply := range replies {
			_, got, ok := impl.DeskLine(desk(wordDesk...), fmt.Sprintf(form, fmt.Sprint(k)))
			wantSame(t, fmt.Sprintf(form, fmt.Sprint(k)), []any{got, ok}, reply, true)
		}
	}
}

func TestWordsThatAreNoHeapsTexts(t *testing.T) {
	for _, word := range []string{"", "-", "--", "1-", "-1", "1--1", "-1-1", "1-1-", "1001", "5-1001", "1001-5", "9999999999999999999999", "01", "00", "0-01", "5-01-0", "+1", "1-+1", "a", "1-a", "1,1", "1.1", "1/1", "1:1", "1>1", "1_0", "1-1\r", "\t1", "1-1\t", "1-1\x00", "１", "1–1", strings.Repeat("1-", 12) + "1", strings.Repeat("0-", 12) + "0", strings.Repeat("1-", 12), strings.Repeat("1-", 1000) + "1", "1-1/1", "0x1", "1e1"} {
		wantWhat(t, "heaps "+word)
	}
	wantWhat(t, "heaps 5 1 0")
	wantWhat(t, "heaps 5-1 0")
	wantEffect(t, wordDesk, "heaps "+strings.Repeat("1-", 11)+"1", repeated(1, 12)...)
	wantEffect(t, wordDesk, "heaps 1000", 1000)
	wantEffect(t, wordDesk, "heaps 0-1000", 0, 1000)
}

func TestWordsThatAreNoCupsTexts(t *testing.T) {
	for _, word := range []string{"", "/", "-/", "1/1", "/1", "1-1", "1-1/", "1-1/0", "1-1/3", "1-1/-1", "1-1/+1", "1-1/01", "1-1/1/1", "1-1//1", "2-2/2", "4-0/4", "0-0/2", "1001-0/1", "0-1001/1", "2001-1/2", "1-1/2097152", "1-1/4294967296", "1-1/9223372036854775808", "01-1/1", "1-01/1", "-1-1/1", "1--1/1", "1-/1", "1-1-/1", "1-+1/1", "1-a/1", "1-1/a", "1-1/1x", "1-1-1-1-1-1-1/1", "0-0-0-0-0-0-0/1", "1.1/1", "1,1/1", "1-1/1\t", "1-1/1\r", "1-1 /1", "１-1/1", "5-1-0"} {
		wantWhat(t, "mix "+word+" 0 1")
		wantWhat(t, "most "+word+" 0 1")
		wantWhat(t, "alike "+word+" 1")
		wantWhat(t, "mix "+word+" 9 9")
		wantWhat(t, "most "+word+" 9 9")
		wantWhat(t, "alike "+word+" 9")
	}
	wantReply(t, wordDesk, "mix 1-1-1-1-1-1/1 0 1", "1-1-1-1-1-1/1")
	wantReply(t, wordDesk, "mix 1000-0/1 1 0", "500-500/1")
	wantReply(t, wordDesk, "mix 0-0/1 0 1", "0-0/1")
}
