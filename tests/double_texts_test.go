package tests

import (
	"fmt"
	"regexp"
	"strings"
	"testing"

	"loop.example/g01333/impl"
)

func TestDoublingsText(t *testing.T) {
	for _, text := range []string{"", "01", "30", "32", "10-01-01", "20-10-21-21-21", "01-01", "01-02-03-10-12-13-20-21-23-30-31-32"} {
		list := doublings(text)
		got, ok := impl.DoublingsText(list)
		wantSame(t, fmt.Sprint("DoublingsText of ", list), []any{got, ok}, text, true)
		back, ok := impl.ParseDoublings(text)
		wantSame(t, "ParseDoublings of "+text, []any{back, ok}, list, true)
	}
	text, ok := impl.DoublingsText(nil)
	wantSame(t, "DoublingsText of nil", []any{text, ok}, "", true)
}

func TestDoublingsThatHaveNoText(t *testing.T) {
	bad := []impl.Doubling{{}, doubling(1, 1), doubling(3, 3), doubling(0, 4), doubling(4, 0), doubling(4, 4), doubling(9, 0), doubling(0, 10),
		doubling(10, 0), doubling(-1, 0), doubling(0, -1), doubling(-1, -2)}
	for _, n := range wildNumbers {
		bad = append(bad, doubling(n, 0), doubling(0, n), doubling(n, n), doubling(n, 1))
	}
	for _, d := range bad {
		for _, list := range [][]impl.Doubling{{d}, {doubling(0, 1), d}, {d, doubling(0, 1)}} {
			text, ok := impl.DoublingsText(list)
			wantZero(t, fmt.Sprint("DoublingsText of ", list), []any{text, ok})
		}
	}
}

func TestTextsThatAreNoDoublingsText(t *testing.T) {
	texts := []string{"0", "1", "-", "--", "-01", "01-", "01--10", "--01", "01-10-", "-01-10", "04", "40", "14", "45", "00", "11", "22", "33",
		"01-00", "00-01", "01-04", "0-1", "01-1", "1-01", "012", "01-012", "0110", "+01", "+1", "-1", "01-+1", "0+", "1-", " 01", "01 ", "0 1", " ",
		"01 10", "01- 10", "01\n", "\n", "01,10", "01.10", "ab", "a1", "1a", "0x", "01-x", "\x000", "0\x00", "\x00\x01", "\xff1", "1\xff", "/0", "0/", ":0",
		"0:", "0\u0661", "\u0661", "\uff10\uff11", "\u22121", "01\u221210", "10-01-01 ", "9223372036854775808"}
	for _, s := range texts {
		list, ok := impl.ParseDoublings(s)
		wantZero(t, fmt.Sprintf("ParseDoublings of %q", s), []any{list, ok})
	}
}

func TestLongDoublingsTexts(t *testing.T) {
	hundred := strings.Repeat("10-01-", 49) + "10-01"
	list, ok := impl.ParseDoublings(hundred)
	wantSame(t, "ParseDoublings of 100", []any{list, ok}, toAndFro(100), true)
	for _, s := range []string{hundred + "-10", hundred + "-", "-" + hundred, hundred + "-x", hundred + "0", strings.Repeat("01-", 100000) + "01",
		strings.Repeat("-", 100000), strings.Repeat("01", 100000), strings.Repeat("-", 99), strings.Repeat("-", 100)} {
		list, ok := impl.ParseDoublings(s)
		wantZero(t, fmt.Sprintf("ParseDoublings of %.40q", s), []any{list, ok})
	}
}

var doublingsForm = regexp.MustCompile(`^[0-3]{2}(-[0-3]{2})*$`)
var sameHeapTwice = regexp.MustCompile(`00|11|22|33`)

// Each text of a few bytes has just the doublings whose text it is.
func TestAllShortDoublingsTexts(t *testing.T) {
	for size := range 7 {
		eachText(size, "0134-+ ", func(s string) {
			list, ok := impl.ParseDoublings(s)
			if want := s == "" || doublingsForm.MatchString(s) && !sameHeapTwice.MatchString(s); ok != want {
				t.Errorf("ParseDoublings of %q: %v, %v", s, list, ok)
			}
			if text, _ := impl.DoublingsText(list); ok && text != s {
				t.Errorf("ParseDoublings of %q: %v, whose text is %q", s, list, text)
			}
		})
	}
}

func TestDoublingsTextsComeBack(t *testing.T) {
	next := random(22)
	for range 500 {
		var list []impl.Doubling
		for range next(101) {
			from := next(4)
			list = append(list, doubling(from, (from+1+next(3))%4))
		}
		text, ok := impl.DoublingsText(list)
		if !ok {
			t.Errorf("DoublingsText of %v failed", list)
		}
		wantSame(t, "the doublings of "+text, []any{doublings(text)}, list)
		back, ok := impl.ParseDoublings(text)
		wantSame(t, "ParseDoublings of "+text, []any{back, ok}, list, true)
	}
}
