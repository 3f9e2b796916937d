package tests

import (
	"fmt"
	"testing"

	"loop.example/g01333/impl"
)

func move(from int, to int, count int) impl.Move {
	return impl.Move{From: from, To: to, Count: count}
}

// backAndForth returns moves of one stone between the heaps 0 and 1.
func backAndForth(moves int) []impl.Move {
	list := []impl.Move{}
	for k := range moves {
		list = append(list, move(k%2, 1-k%2, 1))
	}
	return list
}

func TestMakeMove(t *testing.T) {
	rows := []struct {
		heaps []int
		m     impl.Move
		want  []int
	}{
		{[]int{5, 1, 0}, move(0, 2, 2), []int{3, 1, 2}},
		{[]int{5, 1, 0}, move(0, 1, 5), []int{0, 6, 0}},
		{[]int{5, 1, 0}, move(1, 0, 1), []int{6, 0, 0}},
		{[]int{0, 1000}, move(1, 0, 1000), []int{1000, 0}},
		{[]int{1000, 1}, move(1, 0, 1), []int{1001, 0}},
		{[]int{1000, 1000}, move(0, 1, 1000), []int{0, 2000}},
		{[]int{0, 0, 0, 0, 0, 0, 0, 0, 0, 0, 0, 4}, move(11, 0, 3), []int{3, 0, 0, 0, 0, 0, 0, 0, 0, 0, 0, 1}},
	}
	for _, r := range rows {
		made, ok := impl.MakeMove(r.heaps, r.m)
		wantSame(t, fmt.Sprint("MakeMove of ", r.heaps, r.m), []any{made, ok}, r.want, true)
		played, ok := impl.PlayMoves(r.heaps, []impl.Move{r.m})
		wantSame(t, fmt.Sprint("PlayMoves of ", r.heaps, r.m), []any{played, ok}, r.want, true)
	}
}

func badMoves() []impl.Move {
	bad := []impl.Move{{}, move(0, 0, 1), move(2, 2, 1), move(0, 3, 1), move(3, 0, 1), move(0, -1, 1), move(-1, 0, 1),
		move(3, 4, 1), move(0, 1, 0), move(0, 1, -1), move(0, 1, 6), move(1, 0, 2), move(2, 0, 1), move(0, 11, 1), move(-1, -2, 1)}
	for _, n := range wildNumbers {
		bad = append(bad, move(n, 0, 1), move(0, n, 1), move(0, 1, n), move(n, n, n), move(n, n, 1), move(1, n, n))
	}
	return bad
}

func TestMovesThatCannotBeMade(t *testing.T) {
	for _, m := range badMoves() {
		made, ok := impl.MakeMove([]int{5, 1, 0}, m)
		wantZero(t, fmt.Sprint("MakeMove ", m), []any{made, ok})
		for _, list := range [][]impl.Move{{m}, {m, move(0, 2, 1)}, {move(0, 1, 1), move(1, 0, 1), m}} {
			played, ok := impl.PlayMoves([]int{5, 1, 0}, list)
			wantZero(t, fmt.Sprint("PlayMoves ", list), []any{played, ok})
		}
	}
	made, ok := impl.MakeMove([]int{5}, move(0, 0, 1))
	wantZero(t, "MakeMove of one heap to itself", []any{made, ok})
	made, ok = impl.MakeMove([]int{5}, move(0, 1, 1))
	wantZero(t, "MakeMove of one heap to none", []any{made, ok})
}

func TestPlayMovesOneAfterTheOther(t *testing.T) {
	rows := []struct {
		heaps []int
		moves []impl.Move
		want  []int
	}{
		{[]int{5, 1, 0}, nil, []int{5, 1, 0}},
		{[]int{5, 1, 0}, []impl.Move{}, []int{5, 1, 0}},
		{[]int{5, 1, 0}, []impl.Move{move(0, 1, 1), move(0, 2, 2)}, []int{2, 2, 2}},
		{[]int{0, 1}, []impl.Move{move(1, 0, 1), move(0, 1, 1)}, []int{0, 1}},
		{[]int{5, 1, 0}, []impl.Move{move(0, 2, 5), move(2, 1, 5), move(1, 0, 6)}, []int{6, 0, 0}},
		{[]int{1000, 1000, 1000}, []impl.Move{move(0, 1, 1000), move(2, 1, 1000)}, []int{0, 3000, 0}},
		{[]int{1000, 1000, 1000}, []impl.Move{move(0, 1, 1000), move(2, 1, 1000), move(1, 0, 3000)}, []int{3000, 0, 0}},
		{[]int{1000, 1000}, []impl.Move{move(0, 1, 500), move(1, 0, 500)}, []int{1000, 1000}},
	}
	for _, r := range rows {
		played, ok := impl.PlayMoves(r.heaps, r.moves)
		wantSame(t, fmt.Sprint("PlayMoves of ", r.heaps, r.moves), []any{played, ok}, r.want, true)
	}
	early := []impl.Move{move(0, 1, 1), move(1, 0, 1)}
	played, ok := impl.PlayMoves([]int{0, 1}, early)
	wantZero(t, "PlayMoves from a heap that is empty still", []any{played, ok})
	played, ok = impl.PlayMoves([]int{2, 0}, []impl.Move{move(0, 1, 1), move(0, 1, 2), move(1, 0, 1)})
	wantZero(t, "PlayMoves of more stones than are left", []any{played, ok})
}

func TestAtMostHundredMoves(t *testing.T) {
	for _, moves := range []int{99, 100, 101, 102, 1000} {
		list := backAndForth(moves)
		played, ok := impl.PlayMoves([]int{1, 0}, list)
		cost, costOK := impl.CostOfMoves(list)
		if moves > 100 {
			wantZero(t, fmt.Sprint("PlayMoves of ", moves), []any{played, ok})
			wantZero(t, fmt.Sprint("CostOfMoves of ", moves), []any{cost, costOK})
			continue
		}
		wantSame(t, fmt.Sprint("PlayMoves of ", moves), []any{played, ok}, []int{1 - moves%2, moves % 2}, true)
		wantSame(t, fmt.Sprint("CostOfMoves of ", moves), []any{cost, costOK}, moves, true)
	}
}

func TestCostOfMoves(t *testing.T) {
	farthest := []impl.Move{}
	for range 100 {
		farthest = append(farthest, move(11, 0, 1000))
	}
	rows := []struct {
		moves []impl.Move
		want  int
	}{
		{nil, 0},
		{[]impl.Move{}, 0},
		{[]impl.Move{move(0, 1, 1)}, 1},
		{[]impl.Move{move(1, 0, 3)}, 3},
		{[]impl.Move{move(0, 1, 1), move(0, 2, 2)}, 5},
		{[]impl.Move{move(0, 11, 1000)}, 11000},
		{[]impl.Move{move(7, 3, 5), move(3, 7, 5)}, 40},
		{[]impl.Move{move(10, 11, 1000), move(11, 10, 999)}, 1999},
		{farthest, 1100000},
	}
	for _, r := range rows {
		cost, ok := impl.CostOfMoves(r.moves)
		wantSame(t, fmt.Sprint("CostOfMoves of ", r.moves), []any{cost, ok}, r.want, true)
	}
}

func TestCostOfMovesInvalid(t *testing.T) {
	bad := []impl.Move{{}, move(0, 0, 1), move(11, 11, 1), move(0, 12, 1), move(12, 0, 1), move(-1, 0, 1), move(0, -1, 1),
		move(0, 1, 0), move(0, 1, -1), move(0, 1, 1001), move(12, 13, 5)}
	for _, n := range wildNumbers {
		bad = append(bad, move(n, 0, 1), move(0, n, 1), move(0, 1, n), move(n, n, n))
	}
	for _, m := range bad {
		for _, list := range [][]impl.Move{{m}, {move(0, 1, 1), m}, {m, move(0, 1, 1)}} {
			cost, ok := impl.CostOfMoves(list)
			wantZero(t, fmt.Sprint("CostOfMoves of ", list), []any{cost, ok})
		}
	}
}
