package tests

import (
	"fmt"
	"regexp"
	"strings"
	"testing"

	"loop.example/g01333/impl"
)

func TestHeapsText(t *testing.T) {
	rows := []struct {
		heaps []int
		want  string
	}{
		{[]int{0}, "0"},
		{[]int{5, 1, 0}, "5-1-0"},
		{[]int{1000, 10, 100}, "1000-10-100"},
		{repeated(0, 12), "0-0-0-0-0-0-0-0-0-0-0-0"},
		{repeated(1000, 12), strings.Repeat("1000-", 11) + "1000"},
	}
	for _, r := range rows {
		wantCall(t, "HeapsText", r.heaps, r.want, true)
		heaps, ok := impl.ParseHeaps(r.want)
		wantSame(t, "ParseHeaps of "+r.want, []any{heaps, ok}, r.heaps, true)
	}
}

func TestTextsThatAreNoHeapsText(t *testing.T) {
	texts := []string{"", "-", "--", "1-", "-1", "-1-2", "1-2-", "1--2", "01", "00", "0-00", "1-02", "000", "+1", "1-+2", "-0",
		"1 -2", " 1", "1 ", "1\n", "\n", "1,2", "1.2", "1.0", "1-2x", "a", "0x1", "1_0", "1e1", "1001", "1-1001", "1001-1", "9999",
		"99999999999999999999", "9223372036854775807", "9223372036854775808", "18446744073709551616", "18446744073709551617",
		"1\x00", "\x00", "\xff", "1\xff2", "\u0661", "\uff11", "1\u22122", "\u22121", "1\u00ad2",
		strings.Repeat("0-", 12) + "0", strings.Repeat("1000-", 12) + "1000", strings.Repeat("0-", 12), strings.Repeat("1-", 100000) + "1",
		strings.Repeat("1", 100000), strings.Repeat("0", 100000), strings.Repeat("-", 100000)}
	for _, s := range texts {
		heaps, ok := impl.ParseHeaps(s)
		wantZero(t, fmt.Sprintf("ParseHeaps of %.40q", s), []any{heaps, ok})
	}
}

// isHeapsText holds for texts with so few bytes that there are not too many heaps.
func isHeapsText(s string) bool {
	for _, word := range strings.Split(s, "-") {
		if !heapForm.MatchString(word) {
			return false
		}
	}
	return true
}

var heapForm = regexp.MustCompile(`^(0|[1-9][0-9]{0,2}|1000)$`)

// Each text of a few bytes has just the heaps whose text it is.
func TestAllShortTexts(t *testing.T) {
	for size := range 7 {
		eachText(size, "01-+ 9", func(s string) {
			heaps, ok := impl.ParseHeaps(s)
			if ok != isHeapsText(s) {
				t.Errorf("ParseHeaps of %q: %v, %v", s, heaps, ok)
			}
			if text, _ := impl.HeapsText(heaps); ok && text != s {
				t.Errorf("ParseHeaps of %q: %v, whose text is %q", s, heaps, text)
			}
		})
	}
}

func TestTextsComeBack(t *testing.T) {
	next := random(11)
	for range 2000 {
		heaps := make([]int, 1+next(12))
		for k := range heaps {
			heaps[k] = next(1001)
		}
		text, ok := impl.HeapsText(heaps)
		if want := strings.ReplaceAll(strings.Trim(fmt.Sprint(heaps), "[]"), " ", "-"); !ok || text != want {
			t.Errorf("HeapsText of %v is %q, %v", heaps, text, ok)
		}
		back, ok := impl.ParseHeaps(text)
		wantSame(t, "ParseHeaps of "+text, []any{back, ok}, heaps, true)
	}
}
