package impl

import (
	"slices"
	"strconv"
	"strings"
)

const MaxHeaps = 12
const MaxStones = 1000

// The document states these two limits without naming them.
const mostHeapsForFewest = 8
const mostMovesInList = 100

type Move struct {
	From  int
	To    int
	Count int
}

// AreHeaps reports whether a list of any numbers are heaps.
func AreHeaps(heaps []int) bool {
	return len(heaps) >= 1 && len(heaps) <= MaxHeaps && areWithin(heaps, 0, MaxStones)
}

func areWithin(list []int, least int, greatest int) bool {
	for _, n := range list {
		if n < least || n > greatest {
			return false
		}
	}
	return true
}

// StonesOf returns how many stones they have together.
func StonesOf(heaps []int) (int, bool) {
	if !AreHeaps(heaps) {
		return 0, false
	}
	return sumOf(heaps), true
}

func sumOf(list []int) int {
	sum := 0
	for _, n := range list {
		sum += n
	}
	return sum
}

// CanBeEqual reports whether the stones can be shared equally: whether the number of heaps divides them.
func CanBeEqual(heaps []int) (bool, bool) {
	_, left, ok := EqualShare(heaps)
	return ok && left == 0, ok
}

// EqualShare returns how many stones each heap gets then, rounded down, and how many are left over.
func EqualShare(heaps []int) (int, int, bool) {
	stones, ok := StonesOf(heaps)
	if !ok {
		return 0, 0, false
	}
	return stones / len(heaps), stones % len(heaps), true
}

// shareOfEach fails for all that cannot be made equal, so that what is told of equal heaps fails in the same way.
func shareOfEach(heaps []int) (int, bool) {
	share, left, ok := EqualShare(heaps)
	if !ok || left != 0 {
		return 0, false
	}
	return share, true
}

// A plan has heaps that are to become equal and the next move to this end.
// The zero Move, which carries no stones, stands for none.
type plan struct {
	Move
	heaps []int
	share int
}

// planFor copies the heaps, because a plan changes its own.
func planFor(heaps []int) (plan, bool) {
	share, ok := shareOfEach(heaps)
	if !ok {
		return plan{}, false
	}
	p := plan{heaps: slices.Clone(heaps), share: share}
	p.Move = p.nextMove()
	return p, true
}

func (p plan) tooMany(heap int) int {
	return max(p.heaps[heap]-p.share, 0)
}

func (p plan) tooFew(heap int) int {
	return max(p.share-p.heaps[heap], 0)
}

func (p plan) firstWith(amount func(plan, int) int) (int, bool) {
	for heap := range p.heaps {
		if amount(p, heap) > 0 {
			return heap, true
		}
	}
	return 0, false
}

func (p plan) nextMove() Move {
	from, ok := p.firstWith(plan.tooMany)
	if !ok {
		return Move{}
	}
	// One that has too many means another one that has too few, because the share is exact.
	to, _ := p.firstWith(plan.tooFew)
	return Move{From: from, To: to, Count: min(p.tooMany(from), p.tooFew(to))}
}

func (p plan) isDone() bool {
	return p.Move == Move{}
}

func (p *plan) advance() {
	carry(p.heaps, p.Move)
	p.Move = p.nextMove()
}

func carry(heaps []int, m Move) {
	heaps[m.From] -= m.Count
	heaps[m.To] += m.Count
}

// StonesToMove returns the least number of stones that have to be moved until heaps are equal.
// It fails if they cannot be.
func StonesToMove(heaps []int) (int, bool) {
	p, ok := planFor(heaps)
	if !ok {
		return 0, false
	}
	stones := 0
	for heap := range p.heaps {
		stones += p.tooMany(heap)
	}
	return stones, true
}

// FewestMoves returns the least number of moves, of however many stones each, until they are, for at most 8 heaps.
// It fails in the same way.
func FewestMoves(heaps []int) (int, bool) {
	share, ok := shareOfEach(heaps)
	if !ok || len(heaps) > mostHeapsForFewest {
		return 0, false
	}
	return len(heaps) - mostBalancedGroups(heaps, share), true
}

// mostBalancedGroups returns into how many groups, each with its share of stones, heaps can be parted at most.
// Heaps between which stones are moved are such a group, and k of them need k - 1 moves: so more groups save moves.
func mostBalancedGroups(heaps []int, share int) int {
	surplus := make([]int, 1<<len(heaps))
	groups := make([]int, 1<<len(heaps))
	for set := 1; set < len(groups); set++ {
		for heap, stones := range heaps {
			if set&(1<<heap) == 0 {
				continue
			}
			rest := set &^ (1 << heap)
			surplus[set] = surplus[rest] + stones - share
			groups[set] = max(groups[set], groups[rest])
		}
		if surplus[set] == 0 {
			groups[set]++
		}
	}
	return groups[len(groups)-1]
}

// SharingMoves returns moves until they are: again and again the first heap with too many stones gives the first one
// with too few as many as it has too many, or as that one lacks, if these are fewer. It fails in the same way.
func SharingMoves(heaps []int) ([]Move, bool) {
	p, ok := planFor(heaps)
	if !ok {
		return nil, false
	}
	var moves []Move
	for !p.isDone() {
		moves = append(moves, p.Move)
		p.advance()
	}
	return moves, true
}

// MakeMove returns the heaps behind a move, perhaps with more stones in one than heaps may have.
// It fails if From and To are no two different heaps, or if there are not so many stones.
func MakeMove(heaps []int, m Move) ([]int, bool) {
	return PlayMoves(heaps, []Move{m})
}

// PlayMoves returns the heaps behind all moves, one after the other, on the way and at last perhaps with more stones
// in one than heaps may have. It fails if one of them cannot be made.
func PlayMoves(heaps []int, moves []Move) ([]int, bool) {
	if !AreHeaps(heaps) || len(moves) > mostMovesInList {
		return nil, false
	}
	played := slices.Clone(heaps)
	for _, m := range moves {
		if !isMoveAmong(len(played), m) || played[m.From] < m.Count {
			return nil, false
		}
		carry(played, m)
	}
	return played, true
}

func isMoveAmong(heaps int, m Move) bool {
	return areTwoAmong(heaps, m.From, m.To) && m.Count >= 1
}

func areTwoAmong(count int, one int, other int) bool {
	return isOneAmong(count, one) && isOneAmong(count, other) && one != other
}

func isOneAmong(count int, one int) bool {
	return one >= 0 && one < count
}

// LineDistance returns the least sum, over all stones moved, of how many heaps farther each is carried until heaps in
// a row are equal. It fails in the same way.
func LineDistance(heaps []int) (int, bool) {
	flows, ok := LineFlows(heaps)
	return sumOfSizes(flows), ok
}

func sumOfSizes(list []int) int {
	sum := 0
	for _, n := range list {
		sum += sizeOf(n)
	}
	return sum
}

func sizeOf(n int) int {
	return max(n, -n)
}

// LineFlows returns for each two neighbours how many stones go from the left one to the right one at last, less than 0
// for the other way. It fails in the same way.
func LineFlows(heaps []int) ([]int, bool) {
	share, ok := shareOfEach(heaps)
	if !ok {
		return nil, false
	}
	flows := make([]int, len(heaps)-1)
	surplus := 0
	for k := range flows {
		surplus += heaps[k] - share
		flows[k] = surplus
	}
	return flows, true
}

// RingDistance returns the same least sum around a ring. It fails in the same way.
func RingDistance(heaps []int) (int, bool) {
	flows, ok := RingFlows(heaps)
	return sumOfSizes(flows), ok
}

// RingFlows returns flows with this sum, the last one from the last heap to the first one: those of all by which the
// first one is least; for one heap the flow 0. It fails in the same way.
func RingFlows(heaps []int) ([]int, bool) {
	line, ok := LineFlows(heaps)
	if !ok {
		return nil, false
	}
	flows := append(line, 0)
	// Stones that go all around change each flow by the same number; taking off a median makes the sum least, and of
	// two medians the greater one makes the first flow least.
	sorted := slices.Clone(flows)
	slices.Sort(sorted)
	median := sorted[len(sorted)/2]
	for k := range flows {
		flows[k] -= median
	}
	return flows, true
}

// MostCarried returns the greatest number of stones that pass between two neighbours in LineFlows, whichever way:
// 0 for one heap. It fails in the same way.
func MostCarried(heaps []int) (int, bool) {
	flows, ok := LineFlows(heaps)
	most := 0
	for _, n := range flows {
		most = max(most, sizeOf(n))
	}
	return most, ok
}

// CostOfMoves returns the sum of Count times the distance in the row of all moves, whose heaps are in
// 0..MaxHeaps - 1, different in each one, and whose Counts are in 1..MaxStones.
func CostOfMoves(moves []Move) (int, bool) {
	if len(moves) > mostMovesInList {
		return 0, false
	}
	cost := 0
	for _, m := range moves {
		if !isMoveAmong(MaxHeaps, m) || m.Count > MaxStones {
			return 0, false
		}
		cost += m.Count * sizeOf(m.From-m.To)
	}
	return cost, true
}

// SpreadOf returns the greatest number of stones of a heap less the least one.
func SpreadOf(heaps []int) (int, bool) {
	if !AreHeaps(heaps) {
		return 0, false
	}
	return slices.Max(heaps) - slices.Min(heaps), true
}

// LevelHeaps returns so many heaps, 1..MaxHeaps, with so many stones, 0..MaxStones, that differ by one at most,
// greater ones first.
func LevelHeaps(stones int, heaps int) ([]int, bool) {
	if heaps < 1 || heaps > MaxHeaps || stones < 0 || stones > MaxStones {
		return nil, false
	}
	level := make([]int, heaps)
	for k := range level {
		level[k] = stones / heaps
		if k < stones%heaps {
			level[k]++
		}
	}
	return level, true
}

// HeapsText returns the numbers with - between them.
func HeapsText(heaps []int) (string, bool) {
	if !AreHeaps(heaps) {
		return "", false
	}
	return joinNumbers(heaps, "-"), true
}

func joinNumbers(list []int, separator string) string {
	words := make([]string, len(list))
	for k, n := range list {
		words[k] = strconv.Itoa(n)
	}
	return strings.Join(words, separator)
}

// ParseHeaps returns the heaps with a HeapsText. It fails if there are none.
func ParseHeaps(s string) ([]int, bool) {
	heaps, ok := splitParts(s, "-", MaxHeaps, parseNumber)
	if !ok || !AreHeaps(heaps) {
		return nil, false
	}
	return heaps, true
}

// splitParts cuts off no more than one part too many: that one tells enough, however long the text is.
func splitParts[T any](s string, separator string, most int, parse func(string) (T, bool)) ([]T, bool) {
	words := strings.SplitN(s, separator, most+1)
	if len(words) > most {
		return nil, false
	}
	list := make([]T, len(words))
	for k, word := range words {
		part, ok := parse(word)
		if !ok {
			return nil, false
		}
		list[k] = part
	}
	return list, true
}

// parseNumber writes the number again: signs and superfluous zeros, which Atoi allows, do not come back.
func parseNumber(word string) (int, bool) {
	n, err := strconv.Atoi(word)
	if err != nil || n < 0 || strconv.Itoa(n) != word {
		return 0, false
	}
	return n, true
}
