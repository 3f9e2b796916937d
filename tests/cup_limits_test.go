package tests

import (
	"fmt"
	"testing"

	"loop.example/g01333/impl"
)

// notCups are no cups: because of how many there are, of Unit, of what a cup has, or because Unit could be less.
func notCups() []impl.Cups {
	list := []impl.Cups{{}, cups(0), cups(1), cups(1, 0), cups(1, 5), cups(2, 5), cups(1, repeated(1, 7)...), cups(1, repeated(0, 7)...), cups(2, repeated(1, 7)...),
		cups(1, make([]int, 100000)...), cups(0, 3, 0), cups(-1, 3, 0), cups(-1, -3, 0), cups(-2, 3, 1), cups(3, 3, 1), cups(5, 1, 1), cups(6, 3, 1), cups(7, 1, 2),
		cups(12, 1, 5), cups(1<<20-1, 1, 1), cups(1<<20+1, 1, 1), cups(1<<21, 1, 1), cups(1<<21, 1, 0), cups(1<<22, 1, 3), cups(1<<30, 1, 3), cups(1<<62, 1, 3), cups(0, 0, 0),
		cups(2, 2, 4), cups(2, 0, 0), cups(2, 0, 2), cups(4, 2, 6), cups(4, 0, 4), cups(1<<20, 2, 4), cups(1<<20, 0, 0), cups(1<<20, 1000<<20, 0), cups(2, repeated(2, 6)...),
		cups(1, 1001, 0), cups(1, 0, 1001), cups(1, 1, 2, 3, 4, 5, 1001), cups(2, 2001, 1), cups(2, 1, 2001), cups(4, 4001, 1), cups(1<<20, 1000<<20+1, 1), cups(1<<20, 1, 1000<<20+2),
		cups(1, -1, 0), cups(1, 0, -1), cups(2, -1, 1), cups(2, 1, -1), cups(2, 1, -2), cups(1<<20, -1, 1), cups(1, 0, 0, 0, 0, 0, -1)}
	for _, n := range wildNumbers {
		list = append(list, cups(n, 1, 1), cups(n, 0, 0), cups(n, n, n), cups(n), cups(1, n, 0), cups(1, 0, n), cups(2, n, 1), cups(2, 1, n), cups(1<<20, 1, n), cups(1<<20, n, n),
			cups(1, n), cups(1, repeated(n, 6)...), cups(1, repeated(n, 7)...), cups(1, 3, 0, n), cups(n, 3, 0, n))
	}
	return list
}

func TestInvalidCups(t *testing.T) {
	for _, c := range notCups() {
		what := fmt.Sprintf(" of %.60s", fmt.Sprint(c))
		for _, call := range allCupCalls() {
			wantZero(t, call.name+what, call.call(c))
		}
		for _, n := range wildNumbers {
			for _, call := range append(contentCalls(n), append(mixCalls(n, 0), searchCupCalls(n, n)...)...) {
				wantZero(t, call.name+what, call.call(c))
			}
		}
	}
}

func TestInvalidDrops(t *testing.T) {
	lists := [][]int{nil, {}, {0}, {5}, {1000}, {1001}, repeated(0, 7), repeated(1, 7), repeated(1000, 7), make([]int, 100000), {1001, 0}, {0, 1001}, {1, 2, 3, 4, 5, 1001},
		{-1, 0}, {0, -1}, {1, 2, 3, 4, 5, -1}, {-1, -1}, {2000, -1000}, repeated(1001, 6), repeated(-1, 6)}
	for _, n := range wildNumbers {
		lists = append(lists, []int{n}, []int{n, 0}, []int{0, n}, []int{n, n}, []int{n, -n}, repeated(n, 6), repeated(n, 7))
	}
	for _, drops := range lists {
		c, ok := impl.CupsOf(drops)
		wantZero(t, fmt.Sprintf("CupsOf %.60s", fmt.Sprint(drops)), []any{c, ok})
	}
}

// edgeCups are cups by the least: two and six, the least and greatest Unit, the least and greatest contents.
func edgeCups() []impl.Cups {
	return []impl.Cups{cups(1, 0, 0), cups(1, 1000, 1000), cups(1, 0, 1000), cups(1, 2, 4), cups(1, repeated(0, 6)...), cups(1, repeated(1000, 6)...), cups(2, 1, 0), cups(2, 0, 1),
		cups(2, 2000, 1), cups(2, 1999, 2000), cups(2, 2, 4, 6, 8, 10, 1), cups(2, repeated(1999, 6)...), cups(4, 1, 4000), cups(1024, 1, 1000<<10), cups(1024, 1000<<10-1, 0),
		cups(2048, 1, 0), cups(1<<19, 1, 1000<<19), cups(1<<20, 1, 0), cups(1<<20, 1, 1000<<20), cups(1<<20, 1000<<20-1, 1000<<20), cups(1<<20, 2, 4, 6, 8, 1000<<20, 1)}
}

func TestCupsByTheLeast(t *testing.T) {
	for _, c := range edgeCups() {
		for _, call := range anyCupCalls() {
			if results := call.call(c); results[len(results)-1] != true {
				t.Errorf("%s of %v: %v", call.name, c, results)
			}
		}
		wantPlayed(t, c, nil, c)
		for _, cup := range append([]int{-1, -2, len(c.Parts), len(c.Parts) + 1, 6, 7, 1000}, wildNumbers...) {
			for _, call := range append(contentCalls(cup), fewCupCalls(cup, 1)...) {
				wantZero(t, fmt.Sprint(call.name, " of ", c), call.call(c))
			}
		}
		for cup := range c.Parts {
			for _, call := range contentCalls(cup) {
				if results := call.call(c); results[2] != true {
					t.Errorf("%s of %v: %v", call.name, c, results)
				}
			}
		}
	}
	for unit := 1; unit <= 1<<20; unit *= 2 {
		wantCups(t, "AreCups", cups(unit, 1, 0), true)
		wantCups(t, "AreCups", cups(unit, 1, 1000*unit), true)
		wantCups(t, "AreCups", cups(unit, 1, 1000*unit+1), false)
		wantCups(t, "AreCups", cups(unit, 0, 0), unit == 1)
		wantCups(t, "AreCups", cups(unit+2, 1, 0), unit == 2)
	}
}

// isAPlainPower does not look at bits.
func isAPlainPower(unit int) bool {
	for power := 1; power <= 1<<20; power *= 2 {
		if power == unit {
			return true
		}
	}
	return false
}

func TestUnitsOfCups(t *testing.T) {
	for unit := -100; unit < 5000; unit++ {
		wantCups(t, "AreCups", cups(unit, 1, 0), isAPlainPower(unit))
		wantCups(t, "AreCups", cups(unit, 1, 2, 3), isAPlainPower(unit))
		wantCups(t, "AreCups", cups(unit, 2, 0), unit == 1)
	}
}

func fewCups() []impl.Cups {
	return []impl.Cups{cups(1, 3, 0), cups(1, 0, 0), cups(1, 3, 0, 0), cups(1, 4, 0, 4, 0), cups(1, 1000, 1000, 1000, 1000), cups(2, 1, 3), cups(512, 1, 0, 2, 0),
		cups(1024, 1, 0), cups(1024, 1, 2, 3), cups(1024, 1000<<10, 1, 0, 1000<<10-1), cups(1024, 5, 5, 5, 5)}
}

// moreCups are cups that are not few: because there are more than four, or because Unit is too great.
func moreCups() []impl.Cups {
	return []impl.Cups{cups(1, repeated(0, 5)...), cups(1, repeated(5, 6)...), cups(1, 4, 0, 4, 0, 2), cups(1, 1, 2, 3, 4, 5, 6), cups(1024, 1, 0, 0, 0, 0), cups(2048, 1, 0), cups(2048, 1, 1),
		cups(2048, 1, 2, 3), cups(2048, 5, 5, 5, 5), cups(4096, 1, 3), cups(1<<20, 1, 1), cups(1<<20, 1, 1, 1, 1), cups(2048, 1, 2, 3, 4, 5)}
}

func TestFewCups(t *testing.T) {
	for _, c := range fewCups() {
		for mixes := range 5 {
			for cup := range c.Parts {
				for _, call := range append(fewCupCalls(cup, mixes), countCalls(mixes)...) {
					if results := call.call(c); results[len(results)-1] != true {
						t.Errorf("%s of %v: %v", call.name, c, results)
					}
				}
			}
			for _, cup := range append([]int{-1, -2, len(c.Parts), len(c.Parts) + 1, 4, 6}, wildNumbers...) {
				for _, call := range fewCupCalls(cup, mixes) {
					wantZero(t, fmt.Sprint(call.name, " of ", c), call.call(c))
				}
			}
		}
	}
	for _, c := range moreCups() {
		wantCups(t, "AreCups", c, true)
		for mixes := range 6 {
			for cup := range c.Parts {
				for _, call := range searchCupCalls(cup, mixes) {
					wantZero(t, fmt.Sprint(call.name, " of ", c), call.call(c))
				}
			}
		}
	}
}

func TestNumbersOfMixes(t *testing.T) {
	for _, c := range append(fewCups(), moreCups()...) {
		for _, mixes := range append([]int{-1, -2, 5, 6, 7, 50, 63, 64, 65}, wildNumbers...) {
			for cup := range c.Parts {
				for _, call := range append(fewCupCalls(cup, mixes), countCalls(mixes)...) {
					wantZero(t, fmt.Sprint(call.name, " of ", c), call.call(c))
				}
			}
		}
		for _, most := range append([]int{-1, -2, 6, 7, 50, 63, 64, 65}, wildNumbers...) {
			wantNeverAlike(t, c, most)
		}
	}
	alike := cups(1, 5, 5)
	for most := range 6 {
		for _, call := range alikeCalls(most) {
			if results := call.call(alike); results[1] != true {
				t.Errorf("%s of %v: %v", call.name, alike, results)
			}
		}
	}
}

// A search never makes Unit too great, and its contents are told although their Units are greater than those of few
// cups.
func TestSearchesWithTheGreatestUnit(t *testing.T) {
	wantGreatest(t, cups(1024, 1, 0, 0), 1, 1, 1, 2048)
	wantGreatest(t, cups(1024, 0, 1, 3, 7), 0, 3, 35, 8192)
	wantLeast(t, cups(1024, 1, 0, 0, 0), 0, 3, 1, 8192)
	wantLeast(t, cups(1024, 1000<<10-1, 0, 0, 0), 0, 3, 1000<<10-1, 8192)
	wantLeast(t, cups(1024, 1000<<10-1, 0, 0, 0), 0, 4, 1000<<10-1, 8192)
}
