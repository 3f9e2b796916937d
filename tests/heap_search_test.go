package tests

import (
	"fmt"
	"slices"
	"testing"

	"loop.example/g01333/impl"
)

// The searches of this file know only what a move is; they are slow, and hold for few small heaps.

// A state is heaps as a key, filled up with -1.
type state [6]int

func stateOf(heaps []int) state {
	s := state{-1, -1, -1, -1, -1, -1}
	copy(s[:], heaps)
	return s
}

func areEqual(heaps []int) bool {
	return slices.Max(heaps) == slices.Min(heaps)
}

// fewestSteps returns the least number of moves, each one of those that are offered, until heaps are equal.
func fewestSteps(heaps []int, offered func(heaps []int) []impl.Move) (int, bool) {
	seen := map[state]bool{stateOf(heaps): true}
	front := [][]int{heaps}
	for steps := 0; len(front) > 0; steps++ {
		var behind [][]int
		for _, h := range front {
			if areEqual(h) {
				return steps, true
			}
			for _, m := range offered(h) {
				moved := slices.Clone(h)
				moved[m.From] -= m.Count
				moved[m.To] += m.Count
				if moved[m.From] >= 0 && !seen[stateOf(moved)] {
					seen[stateOf(moved)] = true
					behind = append(behind, moved)
				}
			}
		}
		front = behind
	}
	return 0, false
}

func anyMoves(heaps []int) []impl.Move {
	var list []impl.Move
	for from, stones := range heaps {
		for to := range heaps {
			for count := 1; count <= stones && from != to; count++ {
				list = append(list, move(from, to, count))
			}
		}
	}
	return list
}

func singleStones(heaps []int) []impl.Move {
	return slices.DeleteFunc(anyMoves(heaps), func(m impl.Move) bool { return m.Count != 1 })
}

func neighbourStones(heaps []int) []impl.Move {
	return slices.DeleteFunc(singleStones(heaps), func(m impl.Move) bool { return m.From-m.To != 1 && m.To-m.From != 1 })
}

func ringStones(heaps []int) []impl.Move {
	n := len(heaps)
	return slices.DeleteFunc(singleStones(heaps), func(m impl.Move) bool { return (m.From+1)%n != m.To && (m.To+1)%n != m.From })
}

func TestLeastNumbersAgainstSearches(t *testing.T) {
	searches := []struct {
		name    string
		offered func([]int) []impl.Move
	}{
		{"StonesToMove", singleStones},
		{"FewestMoves", anyMoves},
		{"LineDistance", neighbourStones},
		{"RingDistance", ringStones},
	}
	most := []int{0, 9, 6, 5, 3, 2}
	for size := 1; size <= 5; size++ {
		eachList(size, most[size], func(heaps []int) {
			for _, s := range searches {
				if n, ok := fewestSteps(heaps, s.offered); sumOf(heaps)%size == 0 {
					wantCall(t, s.name, heaps, n, ok)
				} else {
					wantCall(t, s.name, heaps, 0, false)
				}
			}
		})
	}
}

func sumOf(list []int) int {
	sum := 0
	for _, n := range list {
		sum += n
	}
	return sum
}

func sizesOf(list []int) (sum int, most int) {
	for _, n := range list {
		sum += max(n, -n)
		most = max(most, n, -n)
	}
	return sum, most
}

// flowsWithLast returns the flows around a ring with a given flow from the last heap to the first one.
func flowsWithLast(heaps []int, last int) []int {
	share := sumOf(heaps) / len(heaps)
	flows := make([]int, len(heaps))
	into := last
	for k, stones := range heaps {
		flows[k] = into + stones - share
		into = flows[k]
	}
	return flows
}

// bestRingFlows tries last flows from below, so that of several best ones the least first flow comes first.
func bestRingFlows(heaps []int) ([]int, int) {
	var best []int
	least := -1
	for last := -sumOf(heaps) - 1; last <= sumOf(heaps)+1; last++ {
		flows := flowsWithLast(heaps, last)
		if sum, _ := sizesOf(flows); least < 0 || sum < least {
			best, least = flows, sum
		}
	}
	return best, least
}

func checkFlows(t *testing.T, heaps []int) {
	t.Helper()
	line := flowsWithLast(heaps, 0)
	line = line[:len(line)-1]
	sum, most := sizesOf(line)
	wantCall(t, "LineFlows", heaps, line, true)
	wantCall(t, "LineDistance", heaps, sum, true)
	wantCall(t, "MostCarried", heaps, most, true)
	ring, least := bestRingFlows(heaps)
	wantCall(t, "RingFlows", heaps, ring, true)
	wantCall(t, "RingDistance", heaps, least, true)
}

// checkSharing plays the moves of the document's rule, and holds the result against the functions.
func checkSharing(t *testing.T, heaps []int) {
	t.Helper()
	share := sumOf(heaps) / len(heaps)
	left := slices.Clone(heaps)
	var want []impl.Move
	stones := 0
	for !areEqual(left) {
		from := slices.IndexFunc(left, func(n int) bool { return n > share })
		to := slices.IndexFunc(left, func(n int) bool { return n < share })
		count := min(left[from]-share, share-left[to])
		want = append(want, move(from, to, count))
		left[from] -= count
		left[to] += count
		stones += count
	}
	wantCall(t, "SharingMoves", heaps, want, true)
	wantCall(t, "StonesToMove", heaps, stones, true)
	got, _ := impl.SharingMoves(heaps)
	played, ok := impl.PlayMoves(heaps, got)
	wantSame(t, fmt.Sprint("PlayMoves of SharingMoves of ", heaps), []any{played, ok}, repeated(share, len(heaps)), true)
}

func TestAllSmallHeapsAreMadeEqual(t *testing.T) {
	most := []int{0, 12, 12, 9, 5, 3, 2}
	for size := 1; size <= 6; size++ {
		eachList(size, most[size], func(heaps []int) {
			if sumOf(heaps)%size == 0 {
				checkFlows(t, heaps)
				checkSharing(t, heaps)
			}
		})
	}
}

// randomEqual returns heaps that can be made equal, of so many stones at most.
func randomEqual(next func(int) int, size int, most int) []int {
	for {
		heaps := make([]int, size)
		for k := range heaps {
			heaps[k] = next(most + 1)
		}
		if sumOf(heaps)%size == 0 {
			return heaps
		}
	}
}

func TestManyHeapsAreMadeEqual(t *testing.T) {
	next := random(1)
	for k := range 300 {
		most := []int{6, 40, 1000}[k%3]
		heaps := randomEqual(next, 1+k%12, most)
		checkFlows(t, heaps)
		checkSharing(t, heaps)
	}
}

// fewestByGroups parts heaps in all ways into groups with their share: each group saves one move.
func fewestByGroups(heaps []int) int {
	surplus := slices.Clone(heaps)
	for k := range surplus {
		surplus[k] -= sumOf(heaps) / len(heaps)
	}
	return len(heaps) - mostGroups(surplus)
}

func mostGroups(surplus []int) int {
	if len(surplus) == 0 {
		return 0
	}
	most := 0
	others := surplus[1:]
	for chosen := range 1 << len(others) {
		sum := surplus[0]
		var left []int
		for k, n := range others {
			if chosen>>k&1 == 1 {
				sum += n
			} else {
				left = append(left, n)
			}
		}
		if sum == 0 {
			most = max(most, 1+mostGroups(left))
		}
	}
	return most
}

func TestFewestMovesAgainstGroups(t *testing.T) {
	next := random(2)
	for k := range 2000 {
		heaps := randomEqual(next, 1+k%8, []int{3, 6, 10, 20, 1000}[k%5])
		wantCall(t, "FewestMoves", heaps, fewestByGroups(heaps), true)
	}
}

func TestMovesKeepTheStones(t *testing.T) {
	next := random(3)
	for range 500 {
		heaps := make([]int, 2+next(11))
		for k := range heaps {
			heaps[k] = next(1001)
		}
		want := slices.Clone(heaps)
		var moves []impl.Move
		for len(moves) < 100 {
			from, to := next(len(heaps)), next(len(heaps))
			if from == to || want[from] == 0 {
				continue
			}
			m := move(from, to, 1+next(want[from]))
			want[from] -= m.Count
			want[to] += m.Count
			moves = append(moves, m)
		}
		played, ok := impl.PlayMoves(heaps, moves)
		wantSame(t, "PlayMoves", []any{played, ok}, want, true)
	}
}

func TestCostOfMovesAddsUp(t *testing.T) {
	next := random(4)
	for range 500 {
		var moves []impl.Move
		want := 0
		for range next(101) {
			m := move(next(12), next(12), 1+next(1000))
			if m.From != m.To {
				moves = append(moves, m)
				want += m.Count * max(m.From-m.To, m.To-m.From)
			}
		}
		cost, ok := impl.CostOfMoves(moves)
		wantSame(t, fmt.Sprint("CostOfMoves of ", moves), []any{cost, ok}, want, true)
	}
}
