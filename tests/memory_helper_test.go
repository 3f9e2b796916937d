package tests

import (
	"fmt"
	"slices"
	"sync"
	"testing"
)

// checkApart calls with marks behind the argument, and overwrites results: neither may be seen on the other side.
func checkApart(t *testing.T, calls []heapCall, lists [][]int) {
	t.Helper()
	for _, c := range calls {
		for _, heaps := range lists {
			what := fmt.Sprint(c.name, " of ", heaps)
			want := copied(c.call(slices.Clone(heaps)))
			for _, mark := range []int{-9, 0, 1, 5000} {
				g := guard(heaps, mark)
				first := c.call(g.list)
				second := c.call(g.list)
				wantSame(t, what+" with room behind", first, want...)
				g.check(t, what)
				spoil(first)
				g.check(t, what+", its result overwritten")
				wantSame(t, what+" again, the first result overwritten", second, want...)
				wantSame(t, what+" once more", c.call(g.list), want...)
			}
		}
	}
}

// checkPlaysApart does so with a function that plays a list of moves of some kind.
func checkPlaysApart[T comparable](t *testing.T, play func([]int, []T) ([]int, bool), starts [][]int, lists [][]T, mark T) {
	t.Helper()
	for _, heaps := range starts {
		for _, list := range lists {
			what := fmt.Sprint("to play ", list, " from ", heaps)
			want, wantOK := play(slices.Clone(heaps), slices.Clone(list))
			want = slices.Clone(want)
			h, l := guard(heaps, 2), guard(list, mark)
			played, ok := play(h.list, l.list)
			wantSame(t, what, []any{played, ok}, want, wantOK)
			spoil([]any{played})
			h.check(t, what)
			l.check(t, what)
			again, ok := play(h.list, l.list)
			wantSame(t, what+" again", []any{again, ok}, want, wantOK)
		}
	}
}

// checkInnerApart overwrites each inner list up to its capacity: the others stay as they are.
func checkInnerApart(t *testing.T, what string, call func() [][]int) {
	t.Helper()
	want := call()
	for k := range want {
		lists := call()
		spoil([]any{lists[k]})
		for j := range want {
			if j != k && !slices.Equal(lists[j], want[j]) {
				t.Errorf("%s: the list %d is %v when %d is overwritten", what, j, lists[j], k)
			}
		}
	}
}

func checkAtTheSameTime(t *testing.T, calls []heapCall, heaps []int, times int) {
	t.Helper()
	var callers sync.WaitGroup
	for _, c := range calls {
		want := c.call(heaps)
		for range 4 {
			callers.Go(func() {
				for range times {
					wantSame(t, c.name, c.call(heaps), want...)
				}
			})
		}
	}
	callers.Wait()
}
