package tests

import (
	"fmt"
	"regexp"
	"strconv"
	"strings"
	"testing"

	"loop.example/g01333/impl"
)

func TestCupsText(t *testing.T) {
	rows := []struct {
		c    impl.Cups
		want string
	}{
		{cups(1, 0, 0), "0-0/1"},
		{cups(1, 3, 0, 0), "3-0-0/1"},
		{cups(2, 3, 3, 0), "3-3-0/2"},
		{cups(4, 3, 6, 3), "3-6-3/4"},
		{cups(1, 10, 20), "10-20/1"},
		{cups(1, repeated(1000, 6)...), "1000-1000-1000-1000-1000-1000/1"},
		{cups(1<<20, 1, 1000<<20), "1-1048576000/1048576"},
	}
	for _, r := range rows {
		wantCups(t, "CupsText", r.c, r.want, true)
		c, ok := impl.ParseCups(r.want)
		wantSame(t, "ParseCups of "+r.want, []any{c, ok}, r.c, true)
	}
}

func TestTextsThatAreNoCupsText(t *testing.T) {
	texts := []string{"", "/", "-", "-/", "/1", "0", "1", "3-0", "3-0-0", "3/1", "0/1", "/1/", "3-0/", "3-0-0/", "/3-0", "3-0//1", "3-0/1/", "/3-0/1", "3-0/1/1", "3/0/1", "3-0/1-1", "3-0/1-", "3-0/-1",
		"3-/1", "-3/1", "-3-0/1", "3--0/1", "3-0-/1", "--/1", "-/1", "03-0/1", "3-00/1", "3-0/01", "00-0/1", "3-0/00", "3-0/0", "003-0/1", "+3-0/1", "3-+0/1", "3-0/+1", "3--1/1", "3-0/-2", "3-0/--1", "-0-0/1", "3--0/1",
		" 3-0/1", "3-0/1 ", "3 -0/1", "3- 0/1", "3-0 /1", "3-0/ 1", "3-0/1\n", "\t3-0/1", "3-0/1\x00", "3\x00-0/1", "3-0/\xff", "3,0/1", "3.0/1", "3-0:1", "3-0\\1", "3-0|1", "a-b/c", "0x3-0/1", "3-0/0x1", "1_0-0/1", "3-0/1e0", "1e1-0/1",
		"1-0/3", "1-0/5", "1-0/6", "1-0/7", "1-0/2097152", "1-0/1048577", "1-0/1048575", "1-0/4294967296", "1-0/4294967297",
		"2-4/2", "0-0/2", "2-0/4", "0-0/4", "4-0/1048576", "0-0/1048576", "6-6/2", "1001-0/1", "0-1001/1", "2001-1/2", "1-2001/2", "1-1048576001/1048576", "1048576001-1/1048576",
		"0-0-0-0-0-0-0/1", "1-1-1-1-1-1-1/1", "1-1-1-1-1-1-1/2", "1-0-1-0-1-0-/1",
		"99999999999999999999-0/1", "3-99999999999999999999/1", "3-0/99999999999999999999", "9223372036854775807-0/1", "9223372036854775808-0/1", "1-0/9223372036854775807", "1-0/9223372036854775808",
		"18446744073709551616-0/1", "18446744073709551617-0/1", "3-0/18446744073709551617", "1-1/18446744073709551618", "-9223372036854775808-0/1", "1-0/-9223372036854775808",
		"\u0663-0/1", "3-0/\uff11", "3\u22120/1", "3-0\u20441", "3-0\u2215\u0031",
		strings.Repeat("1-", 100000) + "1/1", strings.Repeat("1", 100000) + "-0/1", strings.Repeat("0", 100000) + "3-0/1", "3-0/" + strings.Repeat("0", 100000) + "1", "3-0/" + strings.Repeat("1", 100000),
		strings.Repeat("/", 100000), strings.Repeat("-", 100000), strings.Repeat("3-0/1", 2), "3-0/1" + strings.Repeat("/1", 1000)}
	for _, s := range texts {
		c, ok := impl.ParseCups(s)
		wantZero(t, fmt.Sprintf("ParseCups of %.40q", s), []any{c, ok})
	}
}

var cupsForm = regexp.MustCompile(`^(0|[1-9][0-9]*)(-(0|[1-9][0-9]*)){1,5}/([12]|4)$`)

// isShortCupsText holds for texts whose numbers are less than 1000 and whose Unit is at most 4.
func isShortCupsText(s string) bool {
	if !cupsForm.MatchString(s) {
		return false
	}
	parts, unit, _ := strings.Cut(s, "/")
	odd := false
	for _, word := range strings.Split(parts, "-") {
		odd = odd || strings.ContainsAny(word[len(word)-1:], "13579")
	}
	return odd || unit == "1"
}

// Each text of a few bytes has just the cups whose text it is.
func TestAllShortCupsTexts(t *testing.T) {
	found := 0
	for size := range 8 {
		eachText(size, "0124-/+", func(s string) {
			c, ok := impl.ParseCups(s)
			if ok != isShortCupsText(s) {
				t.Errorf("ParseCups of %q: %v, %v", s, c, ok)
			}
			if text, _ := impl.CupsText(c); ok && text != s {
				t.Errorf("ParseCups of %q: %v, whose text is %q", s, c, text)
			}
			if ok {
				found++
			}
		})
	}
	if found < 500 {
		t.Error("only so many texts are of cups:", found)
	}
}

func TestCupsTextsComeBack(t *testing.T) {
	next := random(58)
	for range 2000 {
		c := someCups(next, 6, 1<<20)
		text, ok := impl.CupsText(c)
		want := strings.ReplaceAll(strings.Trim(fmt.Sprint(c.Parts), "[]"), " ", "-") + "/" + strconv.Itoa(c.Unit)
		if !ok || text != want {
			t.Errorf("CupsText of %v is %q, %v", c, text, ok)
		}
		back, ok := impl.ParseCups(text)
		wantSame(t, "ParseCups of "+text, []any{back, ok}, c, true)
	}
}
