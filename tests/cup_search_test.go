package tests

import (
	"fmt"
	"math"
	"slices"
	"testing"

	"loop.example/g01333/impl"
)

// The searches of this file know only what a mix is, and try all lists of mixes. They tell what cups have as floating
// numbers of drops: all of these are binary fractions with so few digits that none is rounded.

func dropsOf(c impl.Cups) []float64 {
	var drops []float64
	for _, part := range c.Parts {
		drops = append(drops, float64(part)/float64(c.Unit))
	}
	return drops
}

func poured(drops []float64, a int, b int) []float64 {
	behind := slices.Clone(drops)
	behind[a] = (drops[a] + drops[b]) / 2
	behind[b] = behind[a]
	return behind
}

func fractionOf(content float64) (int, int) {
	under := 1
	for content != math.Trunc(content) {
		content *= 2
		under *= 2
	}
	return int(content), under
}

// cupsWith takes the least Unit in which all are whole.
func cupsWith(drops []float64) impl.Cups {
	c := impl.Cups{Unit: 1}
	for _, content := range drops {
		_, under := fractionOf(content)
		c.Unit = max(c.Unit, under)
	}
	for _, content := range drops {
		c.Parts = append(c.Parts, int(content*float64(c.Unit)))
	}
	return c
}

// someCups returns cups of all sorts with Units up to a greatest one.
func someCups(next func(int) int, most int, greatestUnit int) impl.Cups {
	drops := make([]float64, 2+next(most-1))
	unit := 1
	for unit < greatestUnit && next(8) > 0 {
		unit *= 2
	}
	below := []int{3, 9, 1000*unit + 1}[next(3)]
	for cup := range drops {
		drops[cup] = float64(next(below)) / float64(unit)
	}
	return cupsWith(drops)
}

func someMixes(next func(int) int, cups int, size int) [][]int {
	var mixes [][]int
	for len(mixes) < size {
		a, b := next(cups), next(cups)
		if a < b {
			mixes = append(mixes, []int{a, b})
		} else if len(mixes) > 0 && next(2) == 0 {
			mixes = append(mixes, slices.Clone(mixes[len(mixes)-1]))
		}
	}
	return mixes
}

// eachMixed calls do with all lists of just so many mixes, in order, and what there is behind them.
func eachMixed(drops []float64, size int, do func(mixes [][]int, behind []float64)) {
	var mixes [][]int
	var mix func(drops []float64)
	mix = func(drops []float64) {
		if len(mixes) == size {
			do(mixes, drops)
			return
		}
		for a := range drops {
			for b := a + 1; b < len(drops); b++ {
				mixes = append(mixes, []int{a, b})
				mix(poured(drops, a, b))
				mixes = mixes[:len(mixes)-1]
			}
		}
	}
	mix(drops)
}

// extremes has the greatest and the least content of a cup, and the first list that leads to the greatest one, of all
// lists that were tried: shorter ones first, those of the same size in order.
type extremes struct {
	greatest, least float64
	first           [][]int
}

func (e *extremes) see(content float64, mixes [][]int) {
	if content > e.greatest {
		e.greatest, e.first = content, slices.Clone(mixes)
	}
	e.least = min(e.least, content)
}

func checkExtremes(t *testing.T, c impl.Cups, cup int, mixes int, e extremes) {
	t.Helper()
	greatest, under := fractionOf(e.greatest)
	wantGreatest(t, c, cup, mixes, greatest, under)
	least, under := fractionOf(e.least)
	wantLeast(t, c, cup, mixes, least, under)
	wantFirstGreatest(t, c, cup, mixes, e.first)
	behind, ok := impl.PlayMixes(c, e.first)
	if !ok {
		t.Errorf("PlayMixes of %v and %v failed", c, e.first)
	}
	wantContent(t, behind, cup, greatest, fractionUnder(e.greatest))
}

func fractionUnder(content float64) int {
	_, under := fractionOf(content)
	return under
}

// checkMixSearches tries all lists of up to 4 mixes.
func checkMixSearches(t *testing.T, c impl.Cups) {
	t.Helper()
	drops := dropsOf(c)
	all := make([]extremes, len(drops))
	for cup := range all {
		all[cup] = extremes{greatest: drops[cup], least: drops[cup]}
	}
	for size := range 5 {
		led := map[[4]float64]bool{}
		eachMixed(drops, size, func(mixes [][]int, behind []float64) {
			var key [4]float64
			copy(key[:], behind)
			led[key] = true
			for cup, content := range behind {
				all[cup].see(content, mixes)
			}
		})
		wantCountMixed(t, c, size, len(led))
		for cup, e := range all {
			checkExtremes(t, c, cup, size, e)
		}
	}
}

// firstAlike returns the first list of the fewest mixes, up to 5, behind which all have as much.
func firstAlike(drops []float64) ([][]int, bool) {
	var first [][]int
	found := false
	for size := 0; size <= 5 && !found; size++ {
		eachMixed(drops, size, func(mixes [][]int, behind []float64) {
			if !found && slices.Max(behind) == slices.Min(behind) {
				first, found = slices.Clone(mixes), true
			}
		})
	}
	return first, found
}

func checkAlike(t *testing.T, c impl.Cups) {
	t.Helper()
	first, found := firstAlike(dropsOf(c))
	if found {
		wantAlike(t, c, first)
		behind, ok := impl.PlayMixes(c, first)
		alike, alikeOK := impl.AreAlike(behind)
		wantSame(t, fmt.Sprint("AreAlike behind ", first, " of ", c), []any{ok, alike, alikeOK}, true, true, true)
		return
	}
	for most := range 6 {
		wantNeverAlike(t, c, most)
	}
}

func TestMixSearchesAgainstAllLists(t *testing.T) {
	for size, most := range map[int]int{2: 20, 3: 5, 4: 2} {
		eachList(size, most, func(drops []int) {
			checkMixSearches(t, cups(1, drops...))
		})
	}
}

func TestMixSearchesOfSomeCups(t *testing.T) {
	next := random(54)
	for k := range 150 {
		c := someCups(next, 4, 1024)
		if k%3 == 0 {
			c = cupsWith([]float64{float64(next(1001)), float64(next(1001)), float64(next(1024001)) / 1024, float64(next(1000)) + 1.0/1024})
		}
		checkMixSearches(t, c)
	}
}

func TestAlikeAgainstAllLists(t *testing.T) {
	for size, most := range map[int]int{2: 20, 3: 6, 4: 3} {
		eachList(size, most, func(drops []int) {
			checkAlike(t, cups(1, drops...))
		})
	}
}

func TestAlikeOfSomeCups(t *testing.T) {
	next := random(55)
	for range 120 {
		checkAlike(t, someCups(next, 4, 1024))
	}
}

// Cups that come from alike ones by moving as much as is put elsewhere, so that most of them can be mixed to be alike.
func TestAlikeOfPairsWithOneMean(t *testing.T) {
	next := random(56)
	need := map[int]int{}
	for range 150 {
		unit := 1 << next(11)
		mean := 500 * unit
		x, y := next(mean), next(mean)
		parts := [][]int{{mean + x, mean - x, mean + y, mean - y}, {mean + x, mean + y, mean - y, mean - x}, {mean + x, mean - x, mean + x, mean - x},
			{mean + x + y, mean - x - y, mean + x - y, mean - x + y}, {mean + 3*(x/4), mean - x/4, mean - x/4, mean - x/4}}[next(5)]
		var drops []float64
		for _, part := range parts {
			drops = append(drops, float64(part)/float64(unit))
		}
		if slices.Min(drops) < 0 || slices.Max(drops) > 1000 {
			continue
		}
		c := cupsWith(drops)
		checkAlike(t, c)
		if first, found := firstAlike(drops); found {
			need[len(first)]++
		}
	}
	if need[2] == 0 || need[3] == 0 {
		t.Error("how many cups need so many mixes:", need)
	}
}

// With more mixes the greatest content never falls and the least one never grows; no mixes leave both as they are.
func TestMoreMixesReachMore(t *testing.T) {
	next := random(57)
	for range 300 {
		c := someCups(next, 4, 1024)
		drops := dropsOf(c)
		for cup := range drops {
			greatest, least := drops[cup], drops[cup]
			for mixes := range 5 {
				up, upUnder, upOK := impl.GreatestIn(c, cup, mixes)
				down, downUnder, downOK := impl.LeastIn(c, cup, mixes)
				high, low := float64(up)/float64(upUnder), float64(down)/float64(downUnder)
				if !upOK || !downOK || high < greatest || low > least || high > slices.Max(drops) || low < slices.Min(drops) {
					t.Errorf("the cup %d of %v has from %v to %v with %d mixes, from %v to %v with fewer", cup, c, low, high, mixes, least, greatest)
				}
				if mixes == 0 && high != low {
					t.Errorf("the cup %d of %v has from %v to %v with no mixes", cup, c, low, high)
				}
				greatest, least = high, low
			}
		}
	}
}
