package tests

import (
	"fmt"
	"slices"
	"testing"

	"loop.example/g01333/impl"
)

func TestMixesOfTwo(t *testing.T) {
	for _, r := range []struct {
		c    impl.Cups
		a, b int
		want impl.Cups
	}{
		// Unit stays.
		{cups(1, 3, 1), 0, 1, cups(1, 2, 2)},
		{cups(1, 2, 0, 7), 0, 1, cups(1, 1, 1, 7)},
		{cups(2, 3, 5, 1), 0, 1, cups(2, 4, 4, 1)},
		{cups(1<<20, 1, 3, 5), 1, 2, cups(1<<20, 1, 4, 4)},
		// Unit is twice as great.
		{cups(1, 0, 1), 0, 1, cups(2, 1, 1)},
		{cups(1, 3, 0, 0), 0, 2, cups(2, 3, 0, 3)},
		{cups(1, 1000, 999), 0, 1, cups(2, 1999, 1999)},
		{cups(4, 1, 2, 3, 4, 5, 6), 4, 5, cups(8, 2, 4, 6, 8, 11, 11)},
		{cups(1<<19, 1, 0, 1), 0, 1, cups(1<<20, 1, 1, 2)},
		// Unit is less than before.
		{cups(2, 1, 3), 0, 1, cups(1, 1, 1)},
		{cups(2, 1, 3, 2), 0, 1, cups(1, 1, 1, 1)},
		{cups(4, 1, 3, 2), 0, 1, cups(2, 1, 1, 1)},
		{cups(8, 1, 15, 8), 0, 1, cups(1, 1, 1, 1)},
		{cups(8, 0, 3, 5), 1, 2, cups(2, 0, 1, 1)},
		{cups(1<<20, 1, 1<<21-1, 0), 0, 1, cups(1, 1, 1, 0)},
		{cups(1<<20, 1000<<20-1, 1000<<20-3), 0, 1, cups(1<<19, 500<<20-1, 500<<20-1)},
		// Nothing changes.
		{cups(1, 5, 5), 0, 1, cups(1, 5, 5)},
		{cups(1, 0, 0), 0, 1, cups(1, 0, 0)},
		{cups(1, 3, 0, 0), 1, 2, cups(1, 3, 0, 0)},
		{cups(2, 3, 3, 0), 0, 1, cups(2, 3, 3, 0)},
		{cups(1<<20, 5, 5, 7), 0, 1, cups(1<<20, 5, 5, 7)},
		{cups(1<<20, 1000<<20, 1000<<20, 1), 0, 1, cups(1<<20, 1000<<20, 1000<<20, 1)},
	} {
		wantMixed(t, r.c, r.a, r.b, r.want)
		wantMixed(t, r.want, r.a, r.b, r.want)
	}
}

func TestMixesBehindWhichUnitWouldBeTooGreat(t *testing.T) {
	for _, c := range []impl.Cups{cups(1<<20, 1, 0), cups(1<<20, 1, 2), cups(1<<20, 1000<<20, 1000<<20-1), cups(1<<20, 0, 1, 1), cups(1<<20, 7, 4, 1, 1)} {
		wantCups(t, "AreCups", c, true)
		wantNotMixed(t, c, 0, 1)
		wantNotPlayed(t, c, [][]int{{0, 1}, {0, 1}})
	}
	// All would be well again behind the last mix, but not on the way.
	back := [][]int{{0, 1}, {2, 3}, {0, 2}, {1, 3}}
	wantPlayed(t, cups(1<<19, 1, 0, 3, 0), back, cups(1<<19, 1, 1, 1, 1))
	wantPlayed(t, cups(1<<19, 1, 0, 3, 0), back[:1], cups(1<<20, 1, 1, 6, 0))
	wantNotPlayed(t, cups(1<<20, 1, 0, 3, 0), back)
	wantNotPlayed(t, cups(1<<20, 1, 0, 3, 0), back[:1])
	wantPlayed(t, cups(1<<20, 1, 0, 3, 0), [][]int{{0, 2}}, cups(1<<19, 1, 0, 1, 0))
}

// turns returns so many mixes of 0 and 1, 1 and 2, 0 and 1, and so on.
func turns(size int) [][]int {
	var mixes [][]int
	for k := range size {
		mixes = append(mixes, []int{k % 2, k%2 + 1})
	}
	return mixes
}

func TestUnitUpToItsGreatest(t *testing.T) {
	for k := range 21 {
		played, ok := impl.PlayMixes(cups(1, 1, 0, 0), turns(k))
		if !ok || played.Unit != 1<<k {
			t.Errorf("PlayMixes of %d turns: %v, %v", k, played, ok)
		}
	}
	for k := 21; k <= 51; k++ {
		wantNotPlayed(t, cups(1, 1, 0, 0), turns(k))
	}
}

func TestListsOfMixes(t *testing.T) {
	c := cups(1, 3, 0, 0)
	wantPlayed(t, c, nil, c)
	wantPlayed(t, c, [][]int{}, c)
	wantPlayed(t, c, [][]int{{0, 1}, {0, 2}, {1, 2}}, cups(8, 6, 9, 9))
	wantPlayed(t, c, [][]int{{1, 2}, {1, 2}}, c)
	wantPlayed(t, c, [][]int{{0, 1}, {0, 1}}, cups(2, 3, 3, 0))
	wantPlayed(t, c, slices.Repeat([][]int{{1, 2}}, 50), c)
	wantPlayed(t, c, slices.Repeat([][]int{{0, 1}}, 50), cups(2, 3, 3, 0))
	wantPlayed(t, cups(1, 64, 0, 0, 0, 0, 0), [][]int{{0, 1}, {0, 2}, {0, 3}, {0, 4}, {0, 5}}, cups(1, 2, 32, 16, 8, 4, 2))
	wantNotPlayed(t, c, slices.Repeat([][]int{{1, 2}}, 51))
	wantNotPlayed(t, c, slices.Repeat([][]int{{0, 1}}, 51))
	wantNotPlayed(t, c, make([][]int, 51))
	wantNotPlayed(t, c, make([][]int, 100000))
}

func badMixes(cups int) [][]int {
	mixes := [][]int{nil, {}, {0}, {1}, {0, 1, 1}, {0, 1, 2}, {0, 1, 0}, {0, 0, 1}, {0, 0}, {1, 1}, {1, 0}, {cups - 1, 0}, {-1, 0}, {-1, 1}, {0, -1}, {-2, -1}, {-1, -1},
		{0, cups}, {cups - 1, cups}, {cups, 0}, {cups, cups + 1}, {cups, cups}, {0, 1, 0, 1}, repeated(1, 1000)}
	for _, n := range wildNumbers {
		mixes = append(mixes, []int{n}, []int{0, n}, []int{n, 0}, []int{n, 1}, []int{n, n}, []int{n, -n}, []int{-n, n}, []int{0, 1, n})
	}
	return mixes
}

func TestBadMixes(t *testing.T) {
	for _, c := range []impl.Cups{cups(1, 3, 0), cups(1, 3, 0, 0), cups(2, 3, 1, 2, 3), cups(1, 1, 2, 3, 4, 5, 6), cups(1, 0, 0)} {
		for _, mix := range badMixes(len(c.Parts)) {
			wantNotPlayed(t, c, [][]int{mix})
			wantNotPlayed(t, c, [][]int{{0, 1}, mix})
			wantNotPlayed(t, c, [][]int{mix, {0, 1}})
			wantNotPlayed(t, c, append(slices.Repeat([][]int{{0, 1}}, 49), mix))
		}
	}
}

func TestMixesOfCupsThatThereAreNot(t *testing.T) {
	for _, c := range []impl.Cups{cups(1, 3, 0), cups(1, 0, 0), cups(1, 3, 0, 0), cups(1, 1, 2, 3, 4, 5, 6)} {
		size := len(c.Parts)
		for _, a := range append([]int{-2, -1, size, size + 1, 6, 7}, wildNumbers...) {
			for _, b := range append([]int{-1, 0, 1, size - 1, size, a}, wildNumbers...) {
				wantNotMixed(t, c, a, b)
			}
		}
		for cup := range size {
			wantNotMixed(t, c, cup, cup)
		}
	}
}

func dropsTogether(c impl.Cups) string {
	mean, under, _ := impl.MeanOfCups(c)
	return fmt.Sprint(mean, "/", under)
}

// What there is together, and so the mean, stays; both cups of a mix have as much, and all others what they had.
func TestMixesKeepWhatThereIs(t *testing.T) {
	next := random(51)
	for range 3000 {
		c := someCups(next, 6, 1<<19)
		a, b := next(len(c.Parts)), next(len(c.Parts))
		behind, ok := impl.MixTwo(c, a, b)
		if a == b {
			wantNotMixed(t, c, a, b)
			continue
		}
		if !ok || !impl.AreCups(behind) || len(behind.Parts) != len(c.Parts) || dropsTogether(behind) != dropsTogether(c) {
			t.Fatalf("MixTwo of %v, %d and %d: %v, %v", c, a, b, behind, ok)
		}
		had, has := dropsOf(c), dropsOf(behind)
		for cup := range had {
			want := had[cup]
			if cup == a || cup == b {
				want = (had[a] + had[b]) / 2
			}
			if has[cup] != want {
				t.Errorf("MixTwo of %v, %d and %d: %v in %d", c, a, b, has, cup)
			}
		}
		wantMixed(t, behind, a, b, behind)
	}
}

// A list fails when the Unit of what there is behind any of its mixes is too great.
func TestListsOfMixesAgainstFractions(t *testing.T) {
	next := random(52)
	tooGreat := 0
	for range 3000 {
		c := someCups(next, 6, 1<<20)
		mixes := someMixes(next, len(c.Parts), next(51))
		want, ok := dropsOf(c), true
		for _, mix := range mixes {
			want = poured(want, mix[0], mix[1])
			ok = ok && cupsWith(want).Unit <= 1<<20
		}
		if !ok {
			tooGreat++
			wantNotPlayed(t, c, mixes)
			continue
		}
		wantPlayed(t, c, mixes, cupsWith(want))
	}
	if tooGreat < 500 || tooGreat > 2500 {
		t.Error("of 3000 lists, Unit became too great in", tooGreat)
	}
}

// Two mixes of which none has a cup of the other can be made in either order.
func TestMixesApartInEitherOrder(t *testing.T) {
	next := random(53)
	for range 500 {
		c := someCups(next, 6, 1<<10)
		if len(c.Parts) < 4 {
			continue
		}
		one, oneOK := impl.PlayMixes(c, [][]int{{0, 2}, {1, 3}})
		other, otherOK := impl.PlayMixes(c, [][]int{{1, 3}, {0, 2}})
		wantSame(t, fmt.Sprint("PlayMixes of ", c), []any{one, oneOK}, other, otherOK)
	}
}
