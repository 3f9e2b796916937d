package tests

import (
	"testing"

	"loop.example/g01333/impl"
)

func TestChipExample(t *testing.T) {
	wantChip(t, "RestOfChips", []int{0, 3, 0}, []int{1, 1, 1}, true)
	wantFired(t, []int{0, 3, 0}, 1, []int{1, 1, 1}, 0)
	wantChip(t, "FiringsOf", []int{0, 3, 0}, []int{0, 1, 0}, true)

	wantChip(t, "RestOfChips", []int{0, 4, 0}, []int{1, 0, 1}, true)
	wantChip(t, "FiringsOf", []int{0, 4, 0}, []int{1, 3, 1}, true)
	wantChip(t, "LostChips", []int{0, 4, 0}, 1, 1, true)

	wantChip(t, "ClassOfChips", []int{0, 3, 0}, 2, true)
	wantChip(t, "ClassOfChips", []int{1, 1, 1}, 2, true)
	wantSameClass(t, []int{0, 3, 0}, []int{1, 1, 1}, true)

	wantComing(t, 3, 0, []int{1, 0, 1})
	wantComing(t, 3, 1, []int{0, 1, 1})
	wantComing(t, 3, 3, []int{1, 1, 0})
	wantNeutral(t, 3, []int{1, 0, 1})
	wantAdded(t, []int{1, 1, 1}, 1, []int{1, 0, 1})
}

// What a line comes to, and how: its rest, the firings, the chips lost at both ends, and the rounds.
type chipWay struct {
	list, rest, firings []int
	left, right, rounds int
}

func checkWay(t *testing.T, w chipWay) {
	t.Helper()
	wantChip(t, "RestOfChips", w.list, w.rest, true)
	wantChip(t, "FiringsOf", w.list, w.firings, true)
	wantChip(t, "LostChips", w.list, w.left, w.right, true)
	wantChip(t, "RoundsToRest", w.list, w.rounds, true)
}

func TestWaysOfChips(t *testing.T) {
	for _, w := range []chipWay{
		{[]int{0, 3, 0}, []int{1, 1, 1}, []int{0, 1, 0}, 0, 0, 1},
		{[]int{0, 4, 0}, []int{1, 0, 1}, []int{1, 3, 1}, 1, 1, 4},
		{[]int{2, 0}, []int{0, 1}, []int{1, 0}, 1, 0, 1},
		{[]int{0, 2}, []int{1, 0}, []int{0, 1}, 0, 1, 1},
		{[]int{2, 1}, []int{1, 0}, []int{1, 1}, 1, 1, 2},
		{[]int{2, 2}, []int{1, 1}, []int{1, 1}, 1, 1, 1},
		{[]int{3, 0, 0}, []int{1, 1, 0}, []int{1, 0, 0}, 1, 0, 1},
		{[]int{4, 0, 0}, []int{1, 0, 1}, []int{2, 1, 0}, 2, 0, 3},
		{[]int{0, 2, 0}, []int{1, 0, 1}, []int{0, 1, 0}, 0, 0, 1},
		{[]int{2, 0, 2}, []int{1, 0, 1}, []int{1, 1, 1}, 1, 1, 2},
		{[]int{1, 2, 1}, []int{1, 0, 1}, []int{1, 2, 1}, 1, 1, 3},
		{[]int{0, 0, 2, 0, 0}, []int{0, 1, 0, 1, 0}, []int{0, 0, 1, 0, 0}, 0, 0, 1},
		{[]int{1, 1, 2, 1, 1}, []int{1, 1, 0, 1, 1}, []int{1, 2, 3, 2, 1}, 1, 1, 5},
	} {
		checkWay(t, w)
	}
}

func TestOnePlace(t *testing.T) {
	for _, w := range []chipWay{
		{[]int{0}, []int{0}, []int{0}, 0, 0, 0},
		{[]int{1}, []int{1}, []int{0}, 0, 0, 0},
		{[]int{2}, []int{0}, []int{1}, 1, 1, 1},
		{[]int{3}, []int{1}, []int{1}, 1, 1, 1},
		{[]int{59}, []int{1}, []int{29}, 29, 29, 29},
		{[]int{60}, []int{0}, []int{30}, 30, 30, 30},
	} {
		chips := w.list[0]
		checkWay(t, w)
		wantChip(t, "AreChips", w.list, true)
		wantChip(t, "MirrorChips", w.list, w.list, true)
		wantChip(t, "ClassOfChips", w.list, chips%2, true)
		wantChip(t, "DoComeAgain", w.list, chips < 2, true)
		wantCanFire(t, w.list, 0, chips >= 2)
		wantAdded(t, w.list, 0, []int{(chips + 1) % 2})
		if chips < 2 {
			wantNotFired(t, w.list, 0)
			wantChip(t, "FireAll", w.list, w.list, 0, true)
		} else {
			wantFired(t, w.list, 0, []int{chips - 2}, 2)
			wantChip(t, "FireAll", w.list, []int{chips - 2}, 2, true)
		}
		wantInOrder(t, w.list, repeated(0, w.firings[0]), w.rest)
		wantNoOrder(t, w.list, repeated(0, w.firings[0]+1))
	}
}

func TestAllPlacesAlike(t *testing.T) {
	for places := 1; places <= 20; places++ {
		none, ones := repeated(0, places), repeated(1, places)
		checkWay(t, chipWay{none, none, none, 0, 0, 0})
		checkWay(t, chipWay{ones, ones, none, 0, 0, 0})
		wantChip(t, "FireAll", none, none, 0, true)
		wantChip(t, "FireAll", ones, ones, 0, true)
		wantChip(t, "ClassOfChips", none, 0, true)
		wantChip(t, "DoComeAgain", none, places == 1, true)
		wantChip(t, "DoComeAgain", ones, true, true)
		wantChip(t, "DoComeAgain", repeated(2, places), false, true)
		wantChip(t, "DoComeAgain", repeated(60, places), false, true)
	}
}

func TestAllPlacesFull(t *testing.T) {
	full := repeated(60, 20)
	wantChip(t, "AreChips", full, true)
	wantChip(t, "RestOfChips", full, repeated(1, 20), true)
	wantChip(t, "FiringsOf", full, []int{590, 1121, 1593, 2006, 2360, 2655, 2891, 3068, 3186, 3245,
		3245, 3186, 3068, 2891, 2655, 2360, 2006, 1593, 1121, 590}, true)
	wantChip(t, "LostChips", full, 590, 590, true)
	wantChip(t, "ClassOfChips", full, 0, true)
	wantChip(t, "FireAll", full, append(append([]int{59}, repeated(60, 18)...), 59), 2, true)

	wantChip(t, "RestOfChips", repeated(60, 2), []int{1, 1}, true)
	wantChip(t, "FiringsOf", repeated(60, 2), []int{59, 59}, true)
	wantChip(t, "RoundsToRest", repeated(60, 2), 59, true)
	wantChip(t, "RestOfChips", repeated(60, 3), []int{1, 0, 1}, true)
	wantChip(t, "LostChips", repeated(60, 3), 89, 89, true)
}

func TestClassesOfChips(t *testing.T) {
	for _, r := range []struct {
		list []int
		want int
	}{
		{[]int{0}, 0}, {[]int{1}, 1}, {[]int{2}, 0}, {[]int{60}, 0}, {[]int{59}, 1},
		{[]int{1, 0}, 1}, {[]int{0, 1}, 2}, {[]int{1, 1}, 0}, {[]int{2, 0}, 2}, {[]int{0, 2}, 1},
		{[]int{5, 0, 0}, 1}, {[]int{0, 5, 0}, 2}, {[]int{0, 0, 5}, 3}, {[]int{7, 5, 3}, 2},
		{repeated(1, 20), 0}, {repeated(1, 19), 10}, {oneHasAll(20, 19, 60), 3}, {oneHasAll(20, 0, 60), 18}, {oneHasAll(20, 19, 1), 20},
	} {
		wantChip(t, "ClassOfChips", r.list, r.want, true)
	}
	wantSameClass(t, []int{2, 0}, []int{0, 1}, true)
	wantSameClass(t, []int{2, 0}, []int{1, 0}, false)
	wantSameClass(t, []int{1}, []int{59}, true)
	wantSameClass(t, []int{1}, []int{60}, false)
	wantSameClass(t, repeated(60, 20), repeated(0, 20), true)
	wantSameClass(t, oneHasAll(20, 0, 20), oneHasAll(20, 19, 1), true)
	wantSameClass(t, oneHasAll(20, 0, 19), oneHasAll(20, 19, 1), false)
}

func TestChipsThatComeAgain(t *testing.T) {
	for _, r := range []struct {
		list []int
		want bool
	}{
		{[]int{0}, true}, {[]int{1}, true}, {[]int{2}, false},
		{[]int{0, 0}, false}, {[]int{0, 1}, true}, {[]int{1, 0}, true}, {[]int{1, 1}, true}, {[]int{0, 2}, false}, {[]int{1, 2}, false}, {[]int{2, 1}, false},
		{[]int{1, 1, 1}, true}, {[]int{0, 1, 1}, true}, {[]int{1, 0, 1}, true}, {[]int{1, 1, 0}, true},
		{[]int{0, 0, 1}, false}, {[]int{0, 1, 0}, false}, {[]int{1, 0, 0}, false}, {[]int{0, 0, 0}, false},
		{[]int{1, 2, 1}, false}, {[]int{2, 0, 1}, false}, {[]int{1, 1, 60}, false}, {[]int{60, 1, 1}, false},
		{repeated(1, 20), true}, {allBut(20, 0), true}, {allBut(20, 19), true}, {allBut(20, 7), true},
		{append(repeated(1, 18), 0, 0), false}, {append(repeated(1, 19), 2), false}, {append([]int{0}, allBut(19, 18)...), false},
	} {
		wantChip(t, "DoComeAgain", r.list, r.want, true)
	}
}

func TestComingChips(t *testing.T) {
	for places, lists := range map[int][][]int{
		1: {{0}, {1}},
		2: {{1, 1}, {1, 0}, {0, 1}},
		3: {{1, 0, 1}, {0, 1, 1}, {1, 1, 1}, {1, 1, 0}},
		4: {{1, 1, 1, 1}, {1, 1, 1, 0}, {1, 1, 0, 1}, {1, 0, 1, 1}, {0, 1, 1, 1}},
	} {
		for class, want := range lists {
			wantComing(t, places, class, want)
		}
		wantNeutral(t, places, lists[0])
	}
	wantComing(t, 20, 0, repeated(1, 20))
	wantComing(t, 20, 1, allBut(20, 19))
	wantComing(t, 20, 20, allBut(20, 0))
	wantComing(t, 19, 0, allBut(19, 9))
	wantComing(t, 19, 10, repeated(1, 19))
	wantComing(t, 19, 11, allBut(19, 18))
	wantComing(t, 19, 19, allBut(19, 10))
	wantNeutral(t, 20, repeated(1, 20))
	wantNeutral(t, 19, allBut(19, 9))
}

func TestAddedChips(t *testing.T) {
	for _, r := range []struct {
		list  []int
		place int
		want  []int
	}{
		{[]int{0, 0, 0}, 1, []int{0, 1, 0}},
		{[]int{1, 1, 1}, 0, []int{1, 1, 0}},
		{[]int{1, 1, 1}, 2, []int{0, 1, 1}},
		{[]int{1, 0, 1}, 1, []int{1, 1, 1}},
		{[]int{0, 1, 0}, 1, []int{1, 0, 1}},
		{[]int{0, 3, 0}, 0, []int{1, 1, 0}},
		{[]int{60}, 0, []int{1}},
		{[]int{60, 0}, 0, []int{1, 0}},
		{[]int{0, 60}, 1, []int{0, 1}},
		{[]int{0, 60, 0}, 1, []int{1, 1, 1}},
		{[]int{60, 60, 60}, 1, []int{1, 1, 1}},
		{repeated(60, 20), 0, allBut(20, 19)},
		{repeated(60, 20), 19, allBut(20, 0)},
		{repeated(60, 20), 9, allBut(20, 10)},
		{repeated(1, 20), 9, allBut(20, 10)},
	} {
		wantAdded(t, r.list, r.place, r.want)
	}
}

func TestSumsOfChips(t *testing.T) {
	// These come to rest at once.
	wantSum(t, []int{0}, []int{0}, []int{0})
	wantSum(t, []int{0}, []int{1}, []int{1})
	wantSum(t, []int{1}, []int{0}, []int{1})
	wantSum(t, []int{0, 1}, []int{1, 0}, []int{1, 1})
	// These do not.
	wantSum(t, []int{1}, []int{1}, []int{0})
	wantSum(t, []int{0, 1}, []int{0, 1}, []int{1, 0})
	wantSum(t, []int{0, 1}, []int{1, 1}, []int{0, 1})
	wantSum(t, []int{1, 1}, []int{1, 1}, []int{1, 1})
	wantSum(t, []int{1, 1, 1}, []int{1, 1, 1}, []int{1, 0, 1})
	wantSum(t, []int{0, 1, 1}, []int{1, 1, 0}, []int{1, 0, 1})
	wantSum(t, []int{0, 1, 1}, []int{0, 1, 1}, []int{1, 1, 1})
	wantSum(t, []int{1, 0, 1}, []int{1, 0, 1}, []int{1, 0, 1})
	wantSum(t, repeated(1, 20), allBut(20, 4), allBut(20, 4))
	wantSum(t, allBut(20, 0), allBut(20, 19), repeated(1, 20))
	wantSum(t, allBut(20, 0), allBut(20, 0), allBut(20, 1))
}

func TestMirroredChips(t *testing.T) {
	wantChip(t, "MirrorChips", []int{7}, []int{7}, true)
	wantChip(t, "MirrorChips", []int{60, 0}, []int{0, 60}, true)
	wantChip(t, "MirrorChips", []int{3, 1, 2}, []int{2, 1, 3}, true)
	wantChip(t, "MirrorChips", []int{3, 1, 2, 2}, []int{2, 2, 1, 3}, true)
	wantChip(t, "MirrorChips", []int{0, 1, 2, 3, 4, 5, 6, 7, 8, 9, 10, 11, 12, 13, 14, 15, 16, 17, 18, 60},
		[]int{60, 18, 17, 16, 15, 14, 13, 12, 11, 10, 9, 8, 7, 6, 5, 4, 3, 2, 1, 0}, true)
}

func TestChipConstants(t *testing.T) {
	if impl.MaxPlaces != 20 || impl.MaxChips != 60 {
		t.Error("the constants are", impl.MaxPlaces, impl.MaxChips)
	}
}
