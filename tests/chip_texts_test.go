package tests

import (
	"fmt"
	"regexp"
	"strings"
	"testing"

	"loop.example/g01333/impl"
)

func TestChipsText(t *testing.T) {
	rows := []struct {
		list []int
		want string
	}{
		{[]int{0}, "0"},
		{[]int{60}, "60"},
		{[]int{0, 4, 0}, "0.4.0"},
		{[]int{60, 10, 6}, "60.10.6"},
		{repeated(0, 20), strings.Repeat("0.", 19) + "0"},
		{repeated(60, 20), strings.Repeat("60.", 19) + "60"},
	}
	for _, r := range rows {
		wantChip(t, "ChipsText", r.list, r.want, true)
		list, ok := impl.ParseChips(r.want)
		wantSame(t, "ParseChips of "+r.want, []any{list, ok}, r.list, true)
	}
}

func TestTextsThatAreNoChipsText(t *testing.T) {
	texts := []string{"", ".", "..", "1.", ".1", ".1.2", "1.2.", "1..2", "01", "00", "0.00", "1.02", "000", "060", "60.060", "+1", "1.+2", "-0", "-1", "1.-1", "0.-0",
		"1 .2", "1. 2", " 1", "1 ", " ", "1\n", "\n", "1.2\n", "\t1", "1,2", "1-2", "1-0", "1:2", "1/2", "1.2x", "a", "0x1", "1_0", "1e1", "61", "1.61", "61.1", "100", "600", "1.600",
		"99999999999999999999", "9223372036854775807", "9223372036854775808", "-9223372036854775808", "18446744073709551616", "18446744073709551617", "1.18446744073709551617",
		"4294967296", "4294967297", "1\x00", "\x00", "\xff", "1\xff2", "\u0661", "\uff11", "1\u22052", "\u22121", "1\u00b72", "1\u3002\u0032",
		strings.Repeat("0.", 20) + "0", strings.Repeat("60.", 20) + "60", strings.Repeat("0.", 20), strings.Repeat("0.", 19), "." + strings.Repeat("0.", 19) + "0",
		strings.Repeat("1.", 100000) + "1", strings.Repeat("1", 100000), strings.Repeat("0", 100000), strings.Repeat(".", 100000), strings.Repeat(".", 19)}
	for _, s := range texts {
		list, ok := impl.ParseChips(s)
		wantZero(t, fmt.Sprintf("ParseChips of %.40q", s), []any{list, ok})
	}
}

var chipsForm = regexp.MustCompile(`^(0|[1-9]|[1-5][0-9]|60)(\.(0|[1-9]|[1-5][0-9]|60))*$`)

// Each text of a few bytes has just the chips whose text it is.
func TestAllShortChipsTexts(t *testing.T) {
	for size := range 7 {
		eachText(size, "016.-+ ", func(s string) {
			list, ok := impl.ParseChips(s)
			if ok != chipsForm.MatchString(s) {
				t.Errorf("ParseChips of %q: %v, %v", s, list, ok)
			}
			if text, _ := impl.ChipsText(list); ok && text != s {
				t.Errorf("ParseChips of %q: %v, whose text is %q", s, list, text)
			}
		})
	}
}

func TestChipsTextsComeBack(t *testing.T) {
	next := random(41)
	for range 2000 {
		list := make([]int, 1+next(20))
		for k := range list {
			list[k] = next(61)
		}
		text, ok := impl.ChipsText(list)
		if want := strings.ReplaceAll(strings.Trim(fmt.Sprint(list), "[]"), " ", "."); !ok || text != want {
			t.Errorf("ChipsText of %v is %q, %v", list, text, ok)
		}
		back, ok := impl.ParseChips(text)
		wantSame(t, "ParseChips of "+text, []any{back, ok}, list, true)
	}
}
