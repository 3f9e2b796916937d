package tests

import (
	"fmt"
	"regexp"
	"strings"
	"testing"

	"loop.example/g01333/impl"
)

func wantPlanText(t *testing.T, plan []int, want string) {
	t.Helper()
	text, ok := impl.PlanText(plan)
	wantSame(t, fmt.Sprint("PlanText of ", plan), []any{text, ok}, want, true)
	back, ok := impl.ParsePlan(want)
	wantSame(t, "ParsePlan of "+want, []any{back, ok}, plan, true)
}

func wantNoPlanText(t *testing.T, plan []int) {
	t.Helper()
	text, ok := impl.PlanText(plan)
	wantZero(t, fmt.Sprintf("PlanText of %.60s", fmt.Sprint(plan)), []any{text, ok})
}

func TestPlanText(t *testing.T) {
	wantPlanText(t, []int{0}, "0")
	wantPlanText(t, []int{3}, "3")
	wantPlanText(t, []int{0, 1, 0, 1}, "0101")
	wantPlanText(t, []int{0, 1, 1, 0}, "0110")
	wantPlanText(t, []int{3, 2, 1, 0}, "3210")
	wantPlanText(t, repeated(0, 9), "000000000")
	wantPlanText(t, repeated(3, 9), "333333333")
	wantPlanText(t, []int{0, 1, 2, 3, 0, 1, 2, 3, 0}, "012301230")
}

func TestPlansWithoutAText(t *testing.T) {
	lists := [][]int{nil, {}, {-1}, {4}, {5}, {9}, {10}, {-3}, {0, -1}, {-1, 0}, {0, 4}, {4, 0}, {3, 3, 4}, {0, 10}, {12}, {0, 1, -1, 0},
		append(repeated(3, 8), 4), append(repeated(0, 8), -1), append([]int{4}, repeated(0, 8)...), repeated(0, 10), repeated(3, 10), repeated(0, 11), make([]int, 100000)}
	for _, n := range wildNumbers {
		lists = append(lists, []int{n}, []int{0, n}, []int{n, 0}, repeated(n, 9), append(repeated(0, 8), n))
	}
	for _, plan := range lists {
		wantNoPlanText(t, plan)
	}
}

func TestTextsThatAreNoPlanText(t *testing.T) {
	texts := []string{"", "4", "9", "5", "04", "40", "0123456", "01234", "9999", "0129", "-", "-1", "-0", "+", "+1", "+0", "0-", "0+", "0-1", "0+1", "0--1", "1,2", "0.1", "0:1", "0/1", "0_1", "_0",
		" ", " 0", "0 ", "0 1", "01\n", "\n", "\t0", "0\r", "a", "0a", "a0", "o", "O", "l", "0x1", "1e1", "one", "\x00", "0\x00", "\xff", "0\xff1", "\u0660", "\u0661", "0\uff11", "\u00b2", "\u0031\u20e3", "\u2080",
		"0000000000", "3333333333", "0123012301", "00000000000", "000000000 ", " 000000000", "00000000-", "000000004", "400000000", "0000000009", "000000000\n",
		"9223372036854775807", "18446744073709551616", "18446744073709551617", "-9223372036854775808",
		strings.Repeat("0", 100000), strings.Repeat("\xff", 100000), strings.Repeat("\u0660", 9), strings.Repeat(" ", 9), strings.Repeat("-", 9)}
	for _, s := range texts {
		plan, ok := impl.ParsePlan(s)
		wantZero(t, fmt.Sprintf("ParsePlan of %.40q", s), []any{plan, ok})
	}
}

var planForm = regexp.MustCompile(`^[0-3]{1,9}$`)

// Each text of a few bytes has just the plan whose text it is.
func TestAllShortPlanTexts(t *testing.T) {
	for size := range 6 {
		eachText(size, "0349-+ a", func(s string) {
			plan, ok := impl.ParsePlan(s)
			if ok != planForm.MatchString(s) {
				t.Errorf("ParsePlan of %q: %v, %v", s, plan, ok)
			}
			if text, _ := impl.PlanText(plan); ok && text != s {
				t.Errorf("ParsePlan of %q: %v, whose text is %q", s, plan, text)
			}
		})
	}
	for b := range 256 {
		s := string([]byte{byte(b)})
		plan, ok := impl.ParsePlan(s)
		if ok != planForm.MatchString(s) || !ok && len(plan) > 0 {
			t.Errorf("ParsePlan of %q: %v, %v", s, plan, ok)
		}
	}
}

func TestPlanTextsComeBack(t *testing.T) {
	for size := 1; size <= 5; size++ {
		eachList(size, 3, func(plan []int) {
			wantPlanText(t, plan, strings.ReplaceAll(strings.Trim(fmt.Sprint(plan), "[]"), " ", ""))
		})
	}
	next := random(66)
	for range 1000 {
		plan := somePlan(next, 1+next(9), 4)
		wantPlanText(t, plan, strings.ReplaceAll(strings.Trim(fmt.Sprint(plan), "[]"), " ", ""))
	}
}
