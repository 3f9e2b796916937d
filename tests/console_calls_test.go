package tests

import (
	"fmt"
	"slices"
	"strconv"
	"strings"
	"testing"

	"loop.example/g01333/impl"
)

func desk(heaps ...int) impl.Desk {
	return impl.Desk{Heaps: heaps}
}

// scriptOf ends each line by a newline.
func scriptOf(lines ...string) string {
	s := ""
	for _, line := range lines {
		s += line + "\n"
	}
	return s
}

func onDesk(heaps []int, line string) string {
	return fmt.Sprintf("%.60q on %v", line, heaps)
}

func wantLine(t *testing.T, heaps []int, line string, behind []int, reply string) {
	t.Helper()
	d, got, ok := impl.DeskLine(desk(heaps...), line)
	wantSame(t, onDesk(heaps, line), []any{d, got, ok}, desk(behind...), reply, true)
}

// wantEffect has the reply written here, not by the program.
func wantEffect(t *testing.T, heaps []int, line string, behind ...int) {
	t.Helper()
	wantLine(t, heaps, line, behind, joined(behind, "-"))
}

func wantReply(t *testing.T, heaps []int, line string, reply string) {
	t.Helper()
	wantLine(t, heaps, line, heaps, reply)
}

func wantNoLine(t *testing.T, d impl.Desk, line string) {
	t.Helper()
	behind, reply, ok := impl.DeskLine(d, line)
	wantZero(t, onDesk(d.Heaps, line), []any{behind, reply, ok})
}

func wantScript(t *testing.T, s string, replies []string, behind []int, failed []int) {
	t.Helper()
	what := fmt.Sprintf(" of %.200q", s)
	got, ok := impl.RunScript(s)
	wantSame(t, "RunScript"+what, []any{got, ok}, replies, true)
	d, ok := impl.DeskAfter(s)
	wantSame(t, "DeskAfter"+what, []any{d, ok}, desk(behind...), true)
	numbers, ok := impl.FailedLines(s)
	wantSame(t, "FailedLines"+what, []any{numbers, ok}, failed, true)
}

func wantNoScript(t *testing.T, s string) {
	t.Helper()
	what := fmt.Sprintf(" of %.200q", s)
	replies, ok := impl.RunScript(s)
	wantZero(t, "RunScript"+what, []any{replies, ok})
	d, ok := impl.DeskAfter(s)
	wantZero(t, "DeskAfter"+what, []any{d, ok})
	failed, ok := impl.FailedLines(s)
	wantZero(t, "FailedLines"+what, []any{failed, ok})
}

func joined(list []int, separator string) string {
	var words []string
	for _, n := range list {
		words = append(words, strconv.Itoa(n))
	}
	return strings.Join(words, separator)
}

// A lineCall has a line, and the call that it names, made without the console: the one that has an effect, or the one that
// is replied to.
type lineCall struct {
	line   string
	effect func(heaps []int) ([]int, bool)
	reply  func(heaps []int) (string, bool)
}

// on returns the heaps and the reply behind the line, as the document tells them.
func (c lineCall) on(heaps []int) ([]int, string) {
	if c.effect == nil {
		if reply, ok := c.reply(heaps); ok {
			return heaps, reply
		}
		return heaps, "no"
	}
	behind, ok := c.effect(heaps)
	if !ok || len(behind) < 1 || len(behind) > 12 || slices.Max(behind) > 1000 || slices.Min(behind) < 0 {
		return heaps, "no"
	}
	return behind, joined(behind, "-")
}

// wantCalled holds a line against the call that it names.
func wantCalled(t *testing.T, heaps []int, c lineCall) {
	t.Helper()
	behind, reply := c.on(heaps)
	wantLine(t, heaps, c.line, behind, reply)
}

// wordCalls are the lines of one word.
func wordCalls() []lineCall {
	return []lineCall{
		{line: "pass", effect: impl.CandyStep},
		{line: "left", effect: impl.PassLeft},
		{line: "diff", effect: impl.RingStep},
		{line: "show", reply: impl.HeapsText},
		{line: "sum", reply: asNumber(impl.StonesOf)},
		{line: "share", reply: asShare},
		{line: "few", reply: asNumber(impl.FewestMoves)},
		{line: "moves", reply: asMoves},
		{line: "line", reply: asNumber(impl.LineDistance)},
		{line: "flows", reply: asList(impl.LineFlows)},
		{line: "ring", reply: asNumber(impl.RingDistance)},
		{line: "around", reply: asList(impl.RingFlows)},
		{line: "rest", reply: asNumber(impl.StepsToRest)},
		{line: "end", reply: asNumber(impl.RestOfCandies)},
		{line: "given", reply: asList(impl.GivenTo)},
		{line: "lead", reply: asNumber(impl.LeadOfRing)},
		{line: "period", reply: asNumber(impl.PeriodOfRing)},
		{line: "zero", reply: asNumber(impl.StepsToZero)},
		{line: "before", reply: asNumber(impl.CountRingsBefore)},
	}
}

func asNumber(call func([]int) (int, bool)) func([]int) (string, bool) {
	return func(heaps []int) (string, bool) {
		n, ok := call(heaps)
		return strconv.Itoa(n), ok
	}
}

func asList(call func([]int) ([]int, bool)) func([]int) (string, bool) {
	return func(heaps []int) (string, bool) {
		list, ok := call(heaps)
		if len(list) == 0 {
			return "-", ok
		}
		return joined(list, ","), ok
	}
}

func asShare(heaps []int) (string, bool) {
	share, left, ok := impl.EqualShare(heaps)
	return joined([]int{share, left}, ","), ok
}

func asMoves(heaps []int) (string, bool) {
	moves, ok := impl.SharingMoves(heaps)
	if len(moves) == 0 {
		return "-", ok
	}
	var words []string
	for _, m := range moves {
		words = append(words, fmt.Sprintf("%d>%d:%d", m.From, m.To, m.Count))
	}
	return strings.Join(words, " "), ok
}

func heapsCall(heaps []int) lineCall {
	return lineCall{line: "heaps " + joined(heaps, "-"), effect: func([]int) ([]int, bool) { return heaps, true }}
}

func levelCall(stones int, heaps int) lineCall {
	return lineCall{line: fmt.Sprint("level ", stones, " ", heaps), effect: func([]int) ([]int, bool) { return impl.LevelHeaps(stones, heaps) }}
}

func moveCall(from int, to int, count int) lineCall {
	return lineCall{line: fmt.Sprint("move ", from, " ", to, " ", count), effect: func(heaps []int) ([]int, bool) {
		return impl.MakeMove(heaps, impl.Move{From: from, To: to, Count: count})
	}}
}

func cupsWord(c impl.Cups) string {
	return joined(c.Parts, "-") + "/" + strconv.Itoa(c.Unit)
}

func mixCall(c impl.Cups, a int, b int) lineCall {
	return lineCall{line: fmt.Sprint("mix ", cupsWord(c), " ", a, " ", b), reply: func([]int) (string, bool) {
		mixed, ok := impl.MixTwo(c, a, b)
		return cupsWord(mixed), ok
	}}
}

func mostCall(c impl.Cups, cup int, mixes int) lineCall {
	return lineCall{line: fmt.Sprint("most ", cupsWord(c), " ", cup, " ", mixes), reply: func([]int) (string, bool) {
		numerator, denominator, ok := impl.GreatestIn(c, cup, mixes)
		return joined([]int{numerator, denominator}, "/"), ok
	}}
}

func alikeCall(c impl.Cups, most int) lineCall {
	return lineCall{line: fmt.Sprint("alike ", cupsWord(c), " ", most), reply: func([]int) (string, bool) {
		return asNumber(func([]int) (int, bool) { return impl.FewestToAlike(c, most) })(nil)
	}}
}
