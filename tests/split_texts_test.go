package tests

import (
	"fmt"
	"regexp"
	"strings"
	"testing"

	"loop.example/g01333/impl"
)

func wantSplitsText(t *testing.T, list []impl.Split, want string) {
	t.Helper()
	text, ok := impl.SplitsText(list)
	wantSame(t, fmt.Sprint("SplitsText of ", list), []any{text, ok}, want, true)
	back, ok := impl.ParseSplits(want)
	wantSame(t, "ParseSplits of "+want, []any{back, ok}, list, true)
}

func wantNoSplitsText(t *testing.T, list []impl.Split) {
	t.Helper()
	text, ok := impl.SplitsText(list)
	wantZero(t, fmt.Sprintf("SplitsText of %.60s", fmt.Sprint(list)), []any{text, ok})
}

func wantNoSplits(t *testing.T, s string) {
	t.Helper()
	list, ok := impl.ParseSplits(s)
	wantZero(t, fmt.Sprintf("ParseSplits of %.60q", s), []any{list, ok})
}

func TestSplitsText(t *testing.T) {
	wantSplitsText(t, nil, "")
	wantSplitsText(t, []impl.Split{}, "")
	wantSplitsText(t, []impl.Split{{Heap: 0, Part: 1}}, "0:1")
	wantSplitsText(t, []impl.Split{{Heap: 0, Part: 60}}, "0:60")
	wantSplitsText(t, []impl.Split{{Heap: 99, Part: 1}}, "99:1")
	wantSplitsText(t, []impl.Split{{Heap: 99, Part: 60}}, "99:60")
	wantSplitsText(t, []impl.Split{{Heap: 10, Part: 9}, {Heap: 9, Part: 10}}, "10:9,9:10")
	wantSplitsText(t, []impl.Split{{Heap: 0, Part: 2}, {Heap: 0, Part: 2}, {Heap: 1, Part: 1}}, "0:2,0:2,1:1")
	for n := range 60 {
		wantSplitsText(t, splits(fmt.Sprint(n+40, ":", n+1)), fmt.Sprint(n+40, ":", n+1))
		wantSplitsText(t, splits(fmt.Sprint(n, ":", 60-n)), fmt.Sprint(n, ":", 60-n))
	}
}

func TestSplitsWithoutAText(t *testing.T) {
	bad := []impl.Split{{}, split(-1, 1), split(-1, 60), split(0, 0), split(99, 0), split(-1, 0), split(0, -1), split(-1, -1), split(100, 1), split(100, 60), split(0, 61), split(99, 61), split(100, 61), split(1000, 1), split(1, 1000)}
	for _, n := range wildNumbers {
		bad = append(bad, split(n, 1), split(0, n), split(n, n), split(n, 0), split(-1, n))
	}
	for _, s := range bad {
		wantNoSplitsText(t, []impl.Split{s})
		wantNoSplitsText(t, []impl.Split{s, split(0, 1)})
		wantNoSplitsText(t, []impl.Split{split(0, 1), s})
		wantNoSplitsText(t, append(onesFrom(59), s))
	}
}

func TestTextsOfSixtySplits(t *testing.T) {
	for _, word := range []string{"0:1", "99:60", "5:10"} {
		sixty := strings.Repeat(word+",", 59) + word
		wantSplitsText(t, splits(sixty), sixty)
		wantSplitsText(t, splits(sixty)[1:], sixty[len(word)+1:])
		wantNoSplitsText(t, append(splits(sixty), split(0, 1)))
		for _, s := range []string{sixty + "," + word, sixty + ",", "," + sixty, sixty + ":", sixty + ":1", sixty + ",x", sixty + " ", word + "," + sixty + "," + sixty, sixty + ",,"} {
			wantNoSplits(t, s)
		}
	}
	wantNoSplitsText(t, onesFrom(61))
	wantNoSplitsText(t, onesFrom(100000))
	wantNoSplits(t, strings.Repeat("0:1,", 100000)+"0:1")
}

func TestTextsThatAreNoSplitsText(t *testing.T) {
	texts := []string{
		// A sign, a leading 0, a space.
		"-1:1", "+1:1", "0:-1", "0:+1", "-0:1", "+0:1", "0:-0", "00:1", "01:1", "0:01", "0:001", "099:1", "0:060", "010:1", " 0:1", "0:1 ", "0 :1", "0: 1", " ", "0:1, 0:1", "0:1 ,0:1", "1 0:1", "0:1 0",
		// A missing `:`, or a second one.
		"0", "1", "01", "0,1", "0:1,1", "0,0:1", "0:1,0", ":", "::", ":1", "0:", ":0", "1:", "0::1", "0:1:", ":0:1", "0:1:1", "0:1:0:1", "0:1,:", ":,0:1", ":1,0:1", "0:1,0:", "0:1,1:1:1", "0:10:1", "0;1", "0.1", "0-1", "0/1",
		// A `,` at the beginning, at the end or twice.
		",", ",,", ",0:1", "0:1,", "0:1,,0:1", ",,0:1", "0:1,,", "0:1,1:1,", ",0:1,1:1", "0:1;1:1", "0:1.1:1", "0:1-1:1", "0:1\n1:1",
		// Heaps and parts out of bounds.
		"100:1", "100:60", "101:1", "999:1", "0:0", "99:0", "1:0", "0:61", "0:62", "99:61", "0:100", "0:600", "100:61", "0:1,100:1", "0:1,0:61", "0:0,0:1", "100:1,0:1",
		// Numbers longer than an int.
		"9223372036854775807:1", "9223372036854775808:1", "18446744073709551616:1", "18446744073709551617:1", "0:18446744073709551617", "0:9223372036854775808", "0:4294967297", "4294967296:1",
		"-9223372036854775808:1", "-18446744073709551616:1", strings.Repeat("9", 1000) + ":1", "0:" + strings.Repeat("1", 1000), strings.Repeat("0", 1000) + ":1", "0:" + strings.Repeat("0", 1000) + "1",
		// Letters, and bytes that are no text.
		"a", "a:1", "0:a", "a:b", "x:1", "0x1:1", "0:0x1", "1e1:1", "0:1e1", "1_0:1", "0:1_0", "O:1", "0:l", "zero:one", "0:1a", "a0:1", "\x00", "0:\x00", "\x00:1", "0:1\x00", "\xff", "\xff:1", "0:\xff", "0:1\xff", "0\xff:1", "0:1,\xff",
		"\t0:1", "0:1\n", "\n", "0:1\r", "\u0660:\u0661", "0:\uff11", "\uff10:1", "0\uff1a1", "0:1\uff0c0:1", "0:\u00b9", "0:1\u0301", "\ufeff0:1", "0\u00a0:1", "0:\u00bd", "\u22121:1", "0,5:1", "0:1.0", "0.0:1",
		strings.Repeat(":", 60), strings.Repeat(",", 59), strings.Repeat(",", 60), strings.Repeat(":", 100000), strings.Repeat(",", 100000), strings.Repeat("0", 100000), strings.Repeat("\xff", 100000), strings.Repeat(":1,", 100000),
	}
	for _, s := range texts {
		wantNoSplits(t, s)
	}
}

var splitForm = regexp.MustCompile(`^(0|[1-9][0-9]?):([1-9]|[1-5][0-9]|60)$`)

func isSplitsForm(s string) bool {
	words := strings.Split(s, ",")
	for _, word := range words {
		if !splitForm.MatchString(word) {
			return s == ""
		}
	}
	return len(words) <= 60
}

// Each text of a few bytes has just the splits whose text it is.
func TestAllShortSplitsTexts(t *testing.T) {
	for size := range 8 {
		eachText(size, "016:,+", func(s string) {
			list, ok := impl.ParseSplits(s)
			if ok != isSplitsForm(s) {
				t.Errorf("ParseSplits of %q: %v, %v", s, list, ok)
			}
			if text, _ := impl.SplitsText(list); ok && text != s {
				t.Errorf("ParseSplits of %q: %v, whose text is %q", s, list, text)
			}
		})
	}
	for b := range 256 {
		for _, s := range []string{string([]byte{byte(b)}), "0:1" + string([]byte{byte(b)}), string([]byte{byte(b)}) + "0:1", string([]byte{byte(b)}) + ":1", "0" + string([]byte{byte(b)}) + "1", "0:1" + string([]byte{byte(b)}) + "2:3"} {
			list, ok := impl.ParseSplits(s)
			if ok != isSplitsForm(s) || !ok && len(list) > 0 {
				t.Errorf("ParseSplits of %q: %v, %v", s, list, ok)
			}
		}
	}
}

func TestAllSplitsHaveATextInBounds(t *testing.T) {
	for heap := -2; heap <= 102; heap++ {
		for part := -2; part <= 63; part++ {
			text := fmt.Sprintf("%d:%d", heap, part)
			if heap < 0 || heap > 99 || part < 1 || part > 60 {
				wantNoSplitsText(t, []impl.Split{split(heap, part)})
				wantNoSplits(t, text)
				continue
			}
			wantSplitsText(t, []impl.Split{split(heap, part)}, text)
		}
	}
}

func TestSplitsTextsComeBack(t *testing.T) {
	next := random(81)
	for range 500 {
		var words []string
		for range next(61) {
			words = append(words, fmt.Sprintf("%d:%d", next(100), 1+next(60)))
		}
		text := strings.Join(words, ",")
		wantSplitsText(t, splits(text), text)
	}
}
