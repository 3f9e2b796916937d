package tests

import (
	"fmt"
	"slices"
	"testing"

	"loop.example/g01333/impl"
)

// The searches of this file know only which splits there are, and try all of them.

func isAllowed(rule int, left int, part int) bool {
	if left < 1 || part < 1 || part > left {
		return false
	}
	return rule == 0 && left != part || rule == 1 || rule == 2 && left >= 2 && part >= 2
}

func splitsBy(rule int, heaps []int) []impl.Split {
	list := []impl.Split{}
	for heap, stones := range heaps {
		for part := range stones {
			if isAllowed(rule, stones-part, part) {
				list = append(list, split(heap, part))
			}
		}
	}
	return list
}

func behindBy(heaps []int, s impl.Split) []int {
	behind := append(slices.Clone(heaps), s.Part)
	behind[s.Heap] -= s.Part
	return behind
}

func sortedHeaps(heaps []int) []int {
	sorted := slices.Clone(heaps)
	slices.Sort(sorted)
	return sorted
}

func leastMissing(list []int) int {
	n := 0
	for slices.Contains(list, n) {
		n++
	}
	return n
}

// A splitSearch keeps what it has found of all heaps together, whatever their order: it never takes heaps apart.
type splitSearch struct {
	rule   int
	wins   map[string]bool
	values map[string]int
	counts map[string]int
	ends   map[string][][]int
}

func newSplitSearch(rule int) *splitSearch {
	return &splitSearch{rule: rule, wins: map[string]bool{}, values: map[string]int{}, counts: map[string]int{}, ends: map[string][][]int{}}
}

// kept returns what is kept of heaps, or finds it from what is told of all heaps to which their splits lead.
func kept[T any](s *splitSearch, keep map[string]T, heaps []int, tell func(heaps []int, behind []T) T) T {
	heaps = sortedHeaps(heaps)
	key := fmt.Sprint(heaps)
	if found, known := keep[key]; known {
		return found
	}
	var behind []T
	for _, next := range splitsBy(s.rule, heaps) {
		behind = append(behind, kept(s, keep, behindBy(heaps, next), tell))
	}
	found := tell(heaps, behind)
	keep[key] = found
	return found
}

func (s *splitSearch) doesWin(heaps []int) bool {
	return kept(s, s.wins, heaps, func(_ []int, behind []bool) bool { return slices.Contains(behind, false) })
}

// valueOf is the least number that no heaps behind a split have: of one heap after a split, as of all together.
func (s *splitSearch) valueOf(heaps []int) int {
	return kept(s, s.values, heaps, func(_ []int, behind []int) int { return leastMissing(behind) })
}

func (s *splitSearch) countGames(heaps []int) int {
	return kept(s, s.counts, heaps, func(_ []int, behind []int) int {
		if len(behind) == 0 {
			return 1
		}
		return totalOf(behind)
	})
}

func (s *splitSearch) endsOf(heaps []int) [][]int {
	return kept(s, s.ends, heaps, func(heaps []int, behind [][][]int) [][]int {
		if len(behind) == 0 {
			return [][]int{heaps}
		}
		all := slices.Concat(behind...)
		slices.SortFunc(all, slices.Compare[[]int])
		return slices.CompactFunc(all, slices.Equal[[]int])
	})
}

// singleValue is the value of one heap by those of both parts.
func (s *splitSearch) singleValue(heap int) int {
	key := fmt.Sprint("single ", heap)
	if value, known := s.values[key]; known {
		return value
	}
	var values []int
	for _, next := range splitsBy(s.rule, []int{heap}) {
		values = append(values, s.singleValue(heap-next.Part)^s.singleValue(next.Part))
	}
	s.values[key] = leastMissing(values)
	return s.values[key]
}

func (s *splitSearch) valueBySingles(heaps []int) int {
	value := 0
	for _, heap := range heaps {
		value ^= s.singleValue(heap)
	}
	return value
}

func (s *splitSearch) winningBySingles(heaps []int) []impl.Split {
	winning := []impl.Split{}
	for _, next := range splitsBy(s.rule, heaps) {
		if s.valueBySingles(behindBy(heaps, next)) == 0 {
			winning = append(winning, next)
		}
	}
	return winning
}

// eachGame calls do with all lists of splits from heaps until none can be made, and with the heaps behind them.
func eachGame(rule int, heaps []int, made []impl.Split, do func(list []impl.Split, heaps []int)) {
	list := splitsBy(rule, heaps)
	if len(list) == 0 {
		do(made, heaps)
	}
	for _, next := range list {
		eachGame(rule, behindBy(heaps, next), append(slices.Clone(made), next), do)
	}
}

// eachHeapsOf calls do with all heaps of 1..most stones together, no more than so many heaps.
func eachHeapsOf(most int, count int, do func([]int)) {
	var fill func(heaps []int, left int)
	fill = func(heaps []int, left int) {
		if len(heaps) > 0 {
			do(slices.Clone(heaps))
		}
		if len(heaps) == count {
			return
		}
		for stones := 1; stones <= left; stones++ {
			fill(append(heaps, stones), left-stones)
		}
	}
	fill(nil, most)
}

func someSplitHeaps(next func(int) int) []int {
	below := []int{1, 3, 5, 12, 60}[next(5)]
	heaps := make([]int, 1+next(8))
	for k := range heaps {
		heaps[k] = 1 + next(below)
	}
	return heaps
}

// checkSplits holds which splits can be made, and what they lead to, against all splits around them.
func checkSplits(t *testing.T, rule int, heaps []int) {
	t.Helper()
	list := splitsBy(rule, heaps)
	wantSplit(t, "SplitsOf", rule, heaps, list)
	wantSplit(t, "IsSplitOver", rule, heaps, len(list) == 0)
	for heap := -1; heap <= len(heaps); heap++ {
		for part := -1; part <= 61; part++ {
			s := split(heap, part)
			if !slices.Contains(list, s) {
				wantNotMade(t, rule, heaps, s)
				continue
			}
			wantMade(t, rule, heaps, s, behindBy(heaps, s))
			behind, _ := impl.MakeSplit(rule, heaps, s)
			if totalOf(behind) != totalOf(heaps) || len(behind) != len(heaps)+1 {
				t.Errorf("MakeSplit of %v and %v: %v", heaps, s, behind)
			}
		}
	}
}

// checkWinner holds values against a search that plays all games to their end.
func checkWinner(t *testing.T, s *splitSearch, heaps []int) {
	t.Helper()
	value := s.valueOf(heaps)
	wantSplit(t, "ValueOfHeaps", s.rule, heaps, value)
	if len(heaps) == 1 {
		wantSingle(t, "ValueOfSplit", s.rule, heaps[0], value)
	}
	wins := s.doesWin(heaps)
	wantSplit(t, "DoesFirstWin", s.rule, heaps, wins)
	winning := []impl.Split{}
	for _, next := range splitsBy(s.rule, heaps) {
		if !s.doesWin(behindBy(heaps, next)) {
			winning = append(winning, next)
		}
	}
	wantSplit(t, "WinningSplits", s.rule, heaps, winning)
	if wins != (len(winning) > 0) || wins != (value != 0) {
		t.Errorf("%v by %d: value %d, winning splits %v, does win: %v", heaps, s.rule, value, winning, wins)
	}
}

// checkPlay follows a play split by split, with the calls as long as there are no more than eight heaps.
func checkPlay(t *testing.T, s *splitSearch, heaps []int) {
	t.Helper()
	var want []impl.Split
	at := slices.Clone(heaps)
	for {
		choice, all := s.winningBySingles(at), splitsBy(s.rule, at)
		if len(at) <= 8 {
			wantSplit(t, "WinningSplits", s.rule, at, choice)
			wantSplit(t, "SplitsOf", s.rule, at, all)
		}
		if len(all) == 0 {
			break
		}
		next := append(choice, all...)[0]
		want = append(want, next)
		at = behindBy(at, next)
	}
	wantSplit(t, "BestPlay", s.rule, heaps, want)
	play, _ := impl.BestPlay(s.rule, heaps)
	wantSplitsPlayed(t, s.rule, heaps, play, at)
	wins, _ := impl.DoesFirstWin(s.rule, heaps)
	if wins != (len(play)%2 == 1) {
		t.Errorf("BestPlay of %v by %d has %d splits, but the first player wins: %v", heaps, s.rule, len(play), wins)
	}
}

func TestAllSmallSplitHeaps(t *testing.T) {
	for rule := range 3 {
		s := newSplitSearch(rule)
		eachHeapsOf(8, 8, func(heaps []int) {
			checkWinner(t, s, heaps)
			checkPlay(t, s, heaps)
		})
		eachHeapsOf(14, 2, func(heaps []int) {
			checkWinner(t, s, heaps)
			checkPlay(t, s, heaps)
		})
		eachHeapsOf(6, 6, func(heaps []int) { checkSplits(t, rule, heaps) })
		for heap := 1; heap <= 60; heap++ {
			checkSplits(t, rule, []int{heap})
		}
	}
}

// Games of 20 stones in one heap can come to all heaps of 20 stones together.
func TestValuesOfGreaterHeaps(t *testing.T) {
	for rule := range 3 {
		s := newSplitSearch(rule)
		var losing []int
		for heap := 1; heap <= 20; heap++ {
			checkWinner(t, s, []int{heap})
			if s.valueOf([]int{heap}) == 0 {
				losing = append(losing, heap)
			}
			wantSingle(t, "LosingHeaps", rule, heap, losing)
		}
		for heap := 1; heap <= 60; heap++ {
			wantSingle(t, "ValueOfSplit", rule, heap, s.singleValue(heap))
		}
		next := random(82)
		for range 60 {
			heaps := someSplitHeaps(next)
			for totalOf(heaps) > 18 {
				heaps = someSplitHeaps(next)
			}
			checkWinner(t, s, heaps)
		}
	}
}

func TestSomeSplitHeaps(t *testing.T) {
	next := random(83)
	for range 1000 {
		heaps, rule := someSplitHeaps(next), next(3)
		s := newSplitSearch(rule)
		value := s.valueBySingles(heaps)
		winning := s.winningBySingles(heaps)
		wantSplit(t, "ValueOfHeaps", rule, heaps, value)
		wantSplit(t, "DoesFirstWin", rule, heaps, value != 0)
		wantSplit(t, "WinningSplits", rule, heaps, winning)
		if (value != 0) != (len(winning) > 0) {
			t.Errorf("%v by %d: value %d, winning splits %v", heaps, rule, value, winning)
		}
		if totalOf(heaps) <= 30 {
			checkPlay(t, s, heaps)
		}
	}
	for range 20 {
		checkSplits(t, next(3), someSplitHeaps(next))
	}
}

func TestSomePlaysOfThirtyStones(t *testing.T) {
	for rule := range 3 {
		s := newSplitSearch(rule)
		for _, heaps := range [][]int{{30}, {29, 1}, {15, 15}, {7, 8, 15}, {4, 4, 4, 4, 4, 4, 3, 3}, {1, 2, 3, 4, 5, 6, 7, 2}, {23, 1, 1, 1, 1, 1, 1, 1}, {9, 10, 11}, {28}, {27}} {
			checkPlay(t, s, heaps)
		}
	}
}

// A split that can be made behind others is one of those of the heaps behind them.
func TestSomeListsOfSplits(t *testing.T) {
	next := random(84)
	complete := 0
	for range 600 {
		rule, heaps := next(3), someSplitHeaps(next)
		at := slices.Clone(heaps)
		var list []impl.Split
		for range next(61) {
			all := splitsBy(rule, at)
			if len(all) == 0 {
				complete++
				break
			}
			chosen := all[next(len(all))]
			list = append(list, chosen)
			at = behindBy(at, chosen)
		}
		wantSplitsPlayed(t, rule, heaps, list, at)
		if len(list) == 0 {
			continue
		}
		// Another split in its place, and the same splits in another rule, can be made just as the search tells.
		changed := slices.Clone(list)
		changed[next(len(list))] = split(next(len(at)+1)-next(2), next(8))
		for _, rule := range []int{0, 1, 2} {
			checkPlayed(t, rule, heaps, list)
			checkPlayed(t, rule, heaps, changed)
		}
	}
	if complete < 100 {
		t.Error("only so many games were played to their end:", complete)
	}
}

// checkPlayed plays a list by the search, which knows each split that can be made.
func checkPlayed(t *testing.T, rule int, heaps []int, list []impl.Split) {
	t.Helper()
	at, score := slices.Clone(heaps), 0
	for _, s := range list {
		if !slices.Contains(splitsBy(rule, at), s) {
			wantSplitsNotPlayed(t, rule, heaps, list)
			if rule == 1 && len(heaps) == 1 {
				wantNoScore(t, heaps[0], list)
			}
			return
		}
		score += s.Part * (at[s.Heap] - s.Part)
		at = behindBy(at, s)
	}
	wantSplitsPlayed(t, rule, heaps, list, at)
	if rule == 1 && len(heaps) == 1 {
		wantScore(t, heaps[0], list, score)
	}
}

// All games of small heaps, list by list, tell how long they are, where they end, how many they are and what they score.
func TestAllGamesOfSmallHeaps(t *testing.T) {
	for rule, most := range []int{10, 8, 14} {
		for heap := 1; heap <= most; heap++ {
			longest, shortest, count := 0, heap, 0
			var ends [][]int
			eachGame(rule, []int{heap}, nil, func(list []impl.Split, heaps []int) {
				longest, shortest = max(longest, len(list)), min(shortest, len(list))
				count++
				ends = append(ends, sortedHeaps(heaps))
				checkPlayed(t, rule, []int{heap}, list)
				if rule == 1 {
					wantScore(t, heap, list, heap*(heap-1)/2)
				}
			})
			slices.SortFunc(ends, slices.Compare[[]int])
			wantSingle(t, "LongestSplit", rule, heap, longest)
			wantSingle(t, "ShortestSplit", rule, heap, shortest)
			wantSingle(t, "CountSplitGames", rule, heap, count)
			wantSingle(t, "EndsOfSplit", rule, heap, slices.CompactFunc(ends, slices.Equal[[]int]))
		}
	}
}

func TestAllEndsOfGames(t *testing.T) {
	for rule := range 3 {
		s := newSplitSearch(rule)
		for heap := 1; heap <= 14; heap++ {
			ends := s.endsOf([]int{heap})
			wantSingle(t, "EndsOfSplit", rule, heap, ends)
			wantSingle(t, "CountSplitGames", rule, heap, s.countGames([]int{heap}))
			longest, shortest := 0, heap
			for _, end := range ends {
				longest, shortest = max(longest, len(end)-1), min(shortest, len(end)-1)
				if totalOf(end) != heap || len(splitsBy(rule, end)) > 0 {
					t.Errorf("games of %d by %d end at %v", heap, rule, end)
				}
			}
			wantSingle(t, "LongestSplit", rule, heap, longest)
			wantSingle(t, "ShortestSplit", rule, heap, shortest)
		}
	}
}

// lengthsBy returns the most and the fewest splits of games of each heap, by those of both parts.
func lengthsBy(rule int) (map[int]int, map[int]int) {
	longest, shortest := map[int]int{}, map[int]int{}
	for heap := 1; heap <= 60; heap++ {
		for k, s := range splitsBy(rule, []int{heap}) {
			longest[heap] = max(longest[heap], 1+longest[heap-s.Part]+longest[s.Part])
			if few := 1 + shortest[heap-s.Part] + shortest[s.Part]; k == 0 || few < shortest[heap] {
				shortest[heap] = few
			}
		}
	}
	return longest, shortest
}

func TestLengthsOfGreaterGames(t *testing.T) {
	for rule := range 3 {
		longest, shortest := lengthsBy(rule)
		for heap := 1; heap <= 60; heap++ {
			wantSingle(t, "LongestSplit", rule, heap, longest[heap])
			wantSingle(t, "ShortestSplit", rule, heap, shortest[heap])
		}
	}
}

// Full splits of greater heaps, made at random, have the same score, and those that are not full have less.
func TestSomeFullScores(t *testing.T) {
	next := random(85)
	for range 400 {
		heap := 1 + next(60)
		at, score := []int{heap}, 0
		var list []impl.Split
		for {
			wantScore(t, heap, list, score)
			all := splitsBy(1, at)
			if len(all) == 0 {
				break
			}
			s := all[next(len(all))]
			list = append(list, s)
			score += s.Part * (at[s.Heap] - s.Part)
			at = behindBy(at, s)
		}
		wantSingle(t, "FullScore", 1, heap, score)
	}
}
