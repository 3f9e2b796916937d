package tests

import (
	"fmt"
	"regexp"
	"slices"
	"strings"
	"testing"

	"loop.example/g01333/impl"
)

func wantPuzzleText(t *testing.T, p impl.Puzzle, want string) {
	t.Helper()
	wantPuzzle(t, "PuzzleText", p, want)
	back, ok := impl.ParsePuzzle(want)
	wantSame(t, "ParsePuzzle of "+want, []any{back, ok}, p, true)
}

func wantTextOfNoPuzzle(t *testing.T, s string) {
	t.Helper()
	p, ok := impl.ParsePuzzle(s)
	wantZero(t, fmt.Sprintf("ParsePuzzle of %.60q", s), []any{p, ok})
}

func TestPuzzleText(t *testing.T) {
	wantPuzzleText(t, impl.Puzzle{Heaps: 2}, "2h")
	wantPuzzleText(t, impl.Puzzle{Heaps: 3, Clues: []impl.Clue{}}, "3h")
	wantPuzzleText(t, impl.Puzzle{Heaps: 4}, "4h")
	wantPuzzleText(t, impl.Puzzle{Heaps: 2, Clues: []impl.Clue{{}}}, "2h0.0.0.0")
	wantPuzzleText(t, impl.Puzzle{Heaps: 2, Clues: []impl.Clue{{C: 20}, {Kind: 1, B: 1, C: 1}}}, "2h0.0.0.20,1.0.1.1")
	wantPuzzleText(t, impl.Puzzle{Heaps: 4, Clues: []impl.Clue{{Kind: 4, A: 3, B: 2, C: 10}, {Kind: 2, A: 5, C: 4}}}, "4h4.3.2.10,2.5.0.4")
	for _, p := range edgePuzzles() {
		wantPuzzleText(t, p, puzzleText(p))
	}
	for heaps := 2; heaps <= 4; heaps++ {
		for _, c := range cluesOf(heaps) {
			p := impl.Puzzle{Heaps: heaps, Clues: []impl.Clue{c}}
			wantPuzzleText(t, p, puzzleText(p))
			p.Clues = slices.Repeat(p.Clues, 6)
			wantPuzzleText(t, p, puzzleText(p))
			wantTextOfNoPuzzle(t, puzzleText(with(p, c)))
		}
	}
}

func TestTextsOfWhatIsNoPuzzle(t *testing.T) {
	for _, p := range notPuzzles() {
		wantTextOfNoPuzzle(t, puzzleText(p))
	}
	for heaps := range 12 {
		_, ok := impl.ParsePuzzle(fmt.Sprint(heaps, "h"))
		_, fine := impl.ParsePuzzle(fmt.Sprint(heaps, "h5.0.0.5"))
		if want := heaps >= 2 && heaps <= 4; ok != want || fine != want {
			t.Errorf("ParsePuzzle of %d heaps: %v, %v", heaps, ok, fine)
		}
	}
}

func TestTextsOfSixClues(t *testing.T) {
	for _, word := range []string{"0.0.0.9", "1.1.0.0", "2.5.0.2", "3.0.0.20", "4.0.1.10", "5.0.0.5"} {
		six := "2h" + strings.Repeat(word+",", 5) + word
		wantPuzzleText(t, puzzle(six), six)
		for _, s := range []string{six + "," + word, six + ",", six + ",,", six + "." + word, six + "x", six + "h", six + " ", strings.Replace(six, "h", "h,", 1), strings.Replace(six, "h", "", 1), six[1:], six[2:], six + "," + six} {
			wantTextOfNoPuzzle(t, s)
		}
	}
	wantTextOfNoPuzzle(t, "2h"+strings.Repeat("0.0.0.9,", 100000)+"0.0.0.9")
}

func TestTextsThatAreNoPuzzleText(t *testing.T) {
	texts := []string{
		// No `h`, or two of them.
		"", "2", "20.0.0.9", "2,0.0.0.9", "2 0.0.0.9", "0.0.0.9", "2.0.0.0.9", "2:0.0.0.9", "2H", "2H0.0.0.9", "2hh", "2h0.0.0.9h", "h2h", "2h2h", "2h0h", "2hh0.0.0.9", "2h0.0.0.9,h", "2h0.0.0.9,2h0.0.0.9", "2h0.h.0.9", "hh", "h", "h2", "h0.0.0.9", "2h3h0.0.0.9",
		// A sign, a leading 0, a space.
		"-2h", "+2h", "02h", "002h", "2h-0.0.0.9", "2h+0.0.0.9", "2h0.-0.0.9", "2h0.0.+0.9", "2h0.0.0.+9", "2h0.0.0.-9", "2h0.0.0.-1", "2h1.-1.0.1", "2h0.0.0.09", "2h0.0.0.009", "2h00.0.0.9", "2h0.00.0.9", "2h0.0.00.9", "2h01.0.1.1", "2h1.01.0.1", "-2h0.0.0.9", "+2h0.0.0.9", "02h0.0.0.9",
		" ", " 2h", "2 h", "2h ", "2h 0.0.0.9", "2h0 .0.0.9", "2h0. 0.0.9", "2h0.0.0. 9", "2h0.0.0.9 ", "2h0.0.0.9, 1.0.1.1", "2h0.0.0.9 ,1.0.1.1", " 2h0.0.0.9", "2 h0.0.0.9",
		// A number missing in a clue, or too many.
		"2h0", "2h9", "2h0.0", "2h0.0.9", "2h0.0.0", "2h0.0.0.", "2h.0.0.9", "2h0..0.9", "2h0.0..9", "2h...", "2h..", "2h.", "2h....", "2h0.0.0.9.", "2h0.0.0.9.0", "2h0.0.0.0.9", "2h0.0.0.9.1.0.1.1", "2h.0.0.0.9", "2h0.0.0.9,1.0.1", "2h0.0.0.9,1.0.1.1.1", "2h0.0.0,9", "2h0,0.0.9", "2h0,0,0,9", "2h0.0.0.9,1", "2h1,0.0.0.9", "2h0-0-0-9", "2h0:0:0:9", "2h0009",
		// A `,` at the beginning, at the end or twice.
		"2h,", "2h,,", "2h,0.0.0.9", "2h0.0.0.9,", "2h0.0.0.9,,1.0.1.1", "2h,0.0.0.9,1.0.1.1", "2h0.0.0.9,1.0.1.1,", ",2h", ",2h0.0.0.9", "2,h0.0.0.9", "2h0.0.0.9;1.0.1.1", "2h0.0.0.9.,1.0.1.1", "2h0.0.0.9\n1.0.1.1",
		// Numbers longer than an int.
		"9223372036854775808h", "18446744073709551618h", "4294967298h", "18446744073709551618h0.0.0.9", "2h18446744073709551616.0.0.9", "2h0.18446744073709551616.0.9", "2h0.0.18446744073709551616.9", "2h0.0.0.18446744073709551625", "2h0.0.0.9223372036854775807", "2h0.0.0.9223372036854775808", "2h4294967296.0.0.9", "2h0.0.0.4294967305", "2h0.0.0.-18446744073709551607", strings.Repeat("2", 1000) + "h", "2h0.0.0." + strings.Repeat("9", 1000), "2h" + strings.Repeat("0", 1000) + ".0.0.9", strings.Repeat("0", 1000) + "2h",
		// Letters, and bytes that are no text.
		"a", "ah", "xh", "2ha", "2hx.0.0.9", "2h0.0.0.x", "2h0.0.0.9x", "2x0.0.0.9", "twoh", "0x2h", "2h0.0.0.0x9", "2h0.0.0.1e1", "1_0h", "2h0.0.0.1_0", "2h0.0.0.O", "2h0.0.0.9,a", "\x00", "2\x00h", "2h\x00", "\x002h", "2h0.0.0.9\x00", "2h0.0.0\x00.9", "\xff", "2\xffh", "2h\xff", "\xff2h", "2h0.0.0.\xff", "2h0.0.0.9,\xff", "2h\n", "\n2h", "2h0.0.0.9\n", "\t2h", "2h\r", "2\u04bb", "\u0662h", "\uff12h", "2\uff48", "2h0.0.0.\u0669", "2h0\uff0e0\uff0e0\uff0e9", "2h0.0.0.9\uff0c1.0.1.1", "\ufeff2h", "2h\u00a0", "\u00b2h", "2.0h", "2h0.0.0.9\u0301",
		// What is no puzzle.
		"0h", "1h", "5h", "6h", "10h", "22h", "20h", "1h0.0.0.5", "5h0.0.0.5", "0h0.0.0.0", "2h0.0.0.21", "2h0.0.0.100", "2h0.1.0.9", "2h0.0.1.9", "2h1.0.0.1", "2h1.0.1.2", "2h1.2.0.1", "2h1.0.2.1", "3h1.3.0.1", "4h1.0.4.0", "2h2.6.0.1", "2h2.5.1.1", "2h2.5.0.3", "3h2.5.0.4", "4h2.5.0.5", "2h3.0.0.21", "2h3.1.0.1", "2h4.0.1.11", "2h4.1.1.5", "2h4.2.1.5", "2h5.0.0.6", "2h5.1.0.5", "2h6.0.0.0", "2h7.0.0.0", "2h10.0.0.0", "2h0.0.0.9,6.0.0.0", "2h6.0.0.0,0.0.0.9",
		strings.Repeat("h", 100000), "2h" + strings.Repeat(",", 100000), "2h" + strings.Repeat(".", 100000), "2h" + strings.Repeat("0", 100000), strings.Repeat("2", 100000), strings.Repeat("\xff", 100000), strings.Repeat("2h", 100000),
	}
	for _, s := range texts {
		wantTextOfNoPuzzle(t, s)
	}
}

var puzzleForm = regexp.MustCompile(`^[234]h((0|[1-9][0-9]?)(\.(0|[1-9][0-9]?)){3}(,(0|[1-9][0-9]?)(\.(0|[1-9][0-9]?)){3}){0,5})?$`)

// A puzzleReader knows the form of the texts, and all clues.
type puzzleReader map[int][]impl.Clue

func newPuzzleReader() puzzleReader {
	return puzzleReader{2: cluesOf(2), 3: cluesOf(3), 4: cluesOf(4)}
}

func (r puzzleReader) isPuzzleText(s string) bool {
	if !puzzleForm.MatchString(s) {
		return false
	}
	p := puzzle(s)
	return !slices.ContainsFunc(p.Clues, func(c impl.Clue) bool { return !slices.Contains(r[p.Heaps], c) })
}

func (r puzzleReader) check(t *testing.T, s string) bool {
	t.Helper()
	p, ok := impl.ParsePuzzle(s)
	if want := r.isPuzzleText(s); ok != want {
		t.Errorf("ParsePuzzle of %q: %v, %v", s, p, ok)
	}
	if !ok {
		wantZero(t, fmt.Sprintf("ParsePuzzle of %q", s), []any{p})
		return false
	}
	if text, fine := impl.PuzzleText(p); !fine || text != s {
		t.Errorf("ParsePuzzle of %q: %v, whose text is %q", s, p, text)
	}
	return true
}

// Each text of a few bytes is that of just the puzzle whose text it is.
func TestAllShortPuzzleTexts(t *testing.T) {
	r := newPuzzleReader()
	count := 0
	try := func(s string) {
		if r.check(t, s) {
			count++
		}
	}
	for size := range 7 {
		eachText(size, "02h.,-", try)
	}
	for size := range 8 {
		eachText(size, "012.,", func(s string) { try("2h" + s) })
	}
	eachText(7, "0145.", func(s string) { try("4h" + s) })
	eachText(4, "02.,6", func(s string) { try("3h2.5.0." + s) })
	if count < 30 {
		t.Error("only so many of the texts were those of puzzles:", count)
	}
}

// A text with one byte taken out, put in or changed is that of a puzzle just if it has the form and such clues.
func TestPuzzleTextsWithOneByteChanged(t *testing.T) {
	r := newPuzzleReader()
	for _, p := range edgePuzzles() {
		text := puzzleText(p)
		for k := range len(text) + 1 {
			for _, b := range []byte("0123456789.,h-+ x\x00\xff\n") {
				r.check(t, text[:k]+string([]byte{b})+text[k:])
				if k < len(text) {
					r.check(t, text[:k]+string([]byte{b})+text[k+1:])
				}
			}
			if k < len(text) {
				r.check(t, text[:k]+text[k+1:])
			}
		}
	}
	for b := range 256 {
		one := string([]byte{byte(b)})
		for _, s := range []string{one, "2" + one, one + "h", "2h" + one, "2h0.0.0." + one, "2h0.0.0.9" + one, "2h0.0.0.9" + one + "1.0.1.1", "2h0" + one + "0.0.9", "2h" + one + ".0.0.0", one + "2h"} {
			r.check(t, s)
		}
	}
}

func TestPuzzleTextsComeBack(t *testing.T) {
	next := random(94)
	r := newPuzzleReader()
	for range 2000 {
		heaps := 2 + next(3)
		p := impl.Puzzle{Heaps: heaps}
		for range next(7) {
			p.Clues = append(p.Clues, r[heaps][next(len(r[heaps]))])
		}
		wantPuzzleText(t, p, puzzleText(p))
		// The same clues, told of another number of heaps, are perhaps none.
		r.check(t, strings.Replace(puzzleText(p), fmt.Sprint(heaps, "h"), fmt.Sprint(2+next(4), "h"), 1))
	}
}
