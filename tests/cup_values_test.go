package tests

import (
	"testing"

	"loop.example/g01333/impl"
)

func TestCupExample(t *testing.T) {
	wantMixed(t, cups(1, 3, 0, 0), 0, 1, cups(2, 3, 3, 0))
	wantMixed(t, cups(2, 3, 3, 0), 0, 2, cups(4, 3, 6, 3))
	wantPlayed(t, cups(1, 3, 0, 0), [][]int{{0, 1}, {0, 2}}, cups(4, 3, 6, 3))

	wantGreatest(t, cups(1, 3, 0, 0), 2, 2, 3, 2)
	wantFirstGreatest(t, cups(1, 3, 0, 0), 2, 2, [][]int{{0, 2}})

	wantAlike(t, cups(1, 4, 0, 4, 0), [][]int{{0, 1}, {2, 3}})
	wantAlike(t, cups(1, 4, 0, 0, 0), [][]int{{0, 1}, {0, 2}, {1, 3}})
	for most := range 6 {
		wantNeverAlike(t, cups(1, 3, 0, 0), most)
	}
}

func TestCupExampleAsTexts(t *testing.T) {
	for _, r := range []struct {
		text string
		want impl.Cups
	}{
		{"3-0-0/1", cups(1, 3, 0, 0)}, {"3-3-0/2", cups(2, 3, 3, 0)}, {"3-6-3/4", cups(4, 3, 6, 3)},
		{"4-0-4-0/1", cups(1, 4, 0, 4, 0)}, {"4-0-0-0/1", cups(1, 4, 0, 0, 0)},
	} {
		c, ok := impl.ParseCups(r.text)
		wantSame(t, "ParseCups of "+r.text, []any{c, ok}, r.want, true)
		wantCups(t, "CupsText", r.want, r.text, true)
	}
}

func TestCupConstants(t *testing.T) {
	if impl.MaxCups != 6 || impl.MaxDrops != 1000 || impl.MaxMixes != 20 {
		t.Error("the constants are", impl.MaxCups, impl.MaxDrops, impl.MaxMixes)
	}
}

func TestContents(t *testing.T) {
	for _, r := range []struct {
		c           impl.Cups
		cup         int
		want, under int
	}{
		{cups(1, 3, 0, 0), 0, 3, 1},
		{cups(1, 3, 0, 0), 1, 0, 1},
		{cups(2, 3, 2, 0), 0, 3, 2},
		{cups(2, 3, 2, 0), 1, 1, 1},
		{cups(2, 3, 2, 0), 2, 0, 1},
		{cups(8, 3, 6, 4, 16, 0, 1), 0, 3, 8},
		{cups(8, 3, 6, 4, 16, 0, 1), 1, 3, 4},
		{cups(8, 3, 6, 4, 16, 0, 1), 2, 1, 2},
		{cups(8, 3, 6, 4, 16, 0, 1), 3, 2, 1},
		{cups(8, 3, 6, 4, 16, 0, 1), 4, 0, 1},
		{cups(8, 3, 6, 4, 16, 0, 1), 5, 1, 8},
		{cups(1, 1000, 1), 0, 1000, 1},
		{cups(1<<20, 1000<<20, 1), 0, 1000, 1},
		{cups(1<<20, 1000<<20, 1), 1, 1, 1 << 20},
		{cups(1<<20, 1000<<20-1, 0), 0, 1000<<20 - 1, 1 << 20},
		{cups(1<<20, 1000<<20-1, 0), 1, 0, 1},
	} {
		wantContent(t, r.c, r.cup, r.want, r.under)
	}
}

func TestMeansAndSpreads(t *testing.T) {
	for _, r := range []struct {
		c                impl.Cups
		mean, meanUnder  int
		spread, itsUnder int
		alike            bool
	}{
		{cups(1, 3, 0, 0), 1, 1, 3, 1, false},
		{cups(1, 4, 0, 0), 4, 3, 4, 1, false},
		{cups(2, 3, 3, 0), 1, 1, 3, 2, false},
		{cups(4, 3, 6, 3), 1, 1, 3, 4, false},
		{cups(1, 0, 0), 0, 1, 0, 1, true},
		{cups(1, 7, 7, 7, 7, 7, 7), 7, 1, 0, 1, true},
		{cups(2, 7, 7), 7, 2, 0, 1, true},
		{cups(1<<20, 5, 5, 5), 5, 1 << 20, 0, 1, true},
		{cups(1, 0, 1), 1, 2, 1, 1, false},
		{cups(1, 6, 2, 4), 4, 1, 4, 1, false},
		{cups(4, 1, 3, 5), 3, 4, 1, 1, false},
		{cups(4, 1, 2, 3, 4, 5), 3, 4, 1, 1, false},
		{cups(4, 1, 1, 1, 1, 1, 2), 7, 24, 1, 4, false},
		{cups(1, 0, 0, 0, 0, 0, 1), 1, 6, 1, 1, false},
		{cups(1, 1000, 1000, 1000, 1000, 1000, 0), 2500, 3, 1000, 1, false},
		{cups(1<<20, 0, 0, 0, 0, 0, 1), 1, 6 << 20, 1, 1 << 20, false},
		{cups(1<<20, 1000<<20, 1000<<20-1), 2000<<20 - 1, 2 << 20, 1, 1 << 20, false},
	} {
		wantCups(t, "AreCups", r.c, true)
		wantCups(t, "MeanOfCups", r.c, r.mean, r.meanUnder, true)
		wantCups(t, "SpreadOfCups", r.c, r.spread, r.itsUnder, true)
		wantCups(t, "AreAlike", r.c, r.alike, true)
	}
}

func TestDoubledCups(t *testing.T) {
	for _, r := range []struct{ c, want impl.Cups }{
		{cups(1, 3, 0, 0), cups(1, 6, 0, 0)},
		{cups(1, 0, 0), cups(1, 0, 0)},
		{cups(1, 2, 4), cups(1, 4, 8)},
		{cups(1, 500, 499), cups(1, 1000, 998)},
		{cups(1, 500, 500, 500, 500, 500, 500), cups(1, 1000, 1000, 1000, 1000, 1000, 1000)},
		{cups(2, 3, 2), cups(1, 3, 2)},
		{cups(2, 1, 0), cups(1, 1, 0)},
		{cups(4, 3, 6, 4), cups(2, 3, 6, 4)},
		{cups(2, 999, 1000), cups(1, 999, 1000)},
		{cups(1<<20, 1, 500<<20), cups(1<<19, 1, 500<<20)},
	} {
		wantCups(t, "DoubleCups", r.c, r.want, true)
	}
	for _, c := range []impl.Cups{cups(1, 1000, 0), cups(1, 0, 501), cups(1, 501, 501), cups(1, 500, 500, 501), cups(2, 1001, 0), cups(2, 0, 1, 1002),
		cups(2, 2000, 1), cups(4, 2001, 2), cups(1<<20, 500<<20+1, 0), cups(1<<20, 1000<<20, 1)} {
		wantCups(t, "AreCups", c, true)
		wantCups(t, "DoubleCups", c, impl.Cups{}, false)
	}
}

func TestIdleMixes(t *testing.T) {
	for _, r := range []struct {
		c    impl.Cups
		want [][]int
	}{
		{cups(1, 3, 0, 0), [][]int{{1, 2}}},
		{cups(1, 0, 3, 0), [][]int{{0, 2}}},
		{cups(1, 1, 2, 3), nil},
		{cups(1, 0, 1), nil},
		{cups(1, 0, 0), [][]int{{0, 1}}},
		{cups(2, 1, 3, 1, 3), [][]int{{0, 2}, {1, 3}}},
		{cups(2, 3, 1, 1, 3), [][]int{{0, 3}, {1, 2}}},
		{cups(1, 5, 5, 5), [][]int{{0, 1}, {0, 2}, {1, 2}}},
		{cups(1, 7, 5, 5, 5), [][]int{{1, 2}, {1, 3}, {2, 3}}},
		{cups(1, 4, 4, 4, 4, 4, 4), [][]int{{0, 1}, {0, 2}, {0, 3}, {0, 4}, {0, 5}, {1, 2}, {1, 3}, {1, 4}, {1, 5}, {2, 3}, {2, 4}, {2, 5}, {3, 4}, {3, 5}, {4, 5}}},
		{cups(1<<20, 1, 2, 3, 4, 5, 1), [][]int{{0, 5}}},
	} {
		wantCups(t, "IdleMixes", r.c, r.want, true)
		for _, mix := range r.want {
			wantMixed(t, r.c, mix[0], mix[1], r.c)
		}
	}
}

func TestCupsOf(t *testing.T) {
	for _, drops := range [][]int{{0, 0}, {3, 0, 0}, {1000, 0}, {2, 4}, {1, 2, 3, 4, 5, 6}, repeated(1000, 6), repeated(0, 6)} {
		c, ok := impl.CupsOf(drops)
		wantSame(t, "CupsOf", []any{c, ok}, cups(1, drops...), true)
		for cup, n := range drops {
			wantContent(t, c, cup, n, 1)
		}
	}
}

func TestGreatestAndLeast(t *testing.T) {
	for _, r := range []struct {
		c               impl.Cups
		cup, mixes      int
		greatest, under int
		least, itsUnder int
		first           [][]int
	}{
		{cups(1, 3, 0, 0), 0, 0, 3, 1, 3, 1, nil},
		{cups(1, 3, 0, 0), 0, 4, 3, 1, 3, 4, nil},
		{cups(1, 3, 0, 0), 0, 1, 3, 1, 3, 2, nil},
		{cups(1, 3, 0, 0), 0, 2, 3, 1, 3, 4, nil},
		{cups(1, 3, 0, 0), 2, 0, 0, 1, 0, 1, nil},
		{cups(1, 3, 0, 0), 2, 1, 3, 2, 0, 1, [][]int{{0, 2}}},
		{cups(1, 3, 0, 0), 2, 4, 3, 2, 0, 1, [][]int{{0, 2}}},
		{cups(1, 0, 4, 8), 0, 1, 4, 1, 0, 1, [][]int{{0, 2}}},
		{cups(1, 0, 4, 8), 0, 2, 5, 1, 0, 1, [][]int{{0, 1}, {0, 2}}},
		{cups(1, 0, 4, 8), 0, 3, 5, 1, 0, 1, [][]int{{0, 1}, {0, 2}}},
		{cups(1, 0, 4, 8), 1, 2, 6, 1, 2, 1, [][]int{{1, 2}}},
		{cups(1, 0, 2, 4, 8), 0, 3, 21, 4, 0, 1, [][]int{{0, 1}, {0, 2}, {0, 3}}},
		{cups(1, 0, 8), 0, 4, 4, 1, 0, 1, [][]int{{0, 1}}},
		{cups(2, 0, 5), 0, 1, 5, 4, 0, 1, [][]int{{0, 1}}},
		{cups(2, 0, 5), 1, 4, 5, 2, 5, 4, nil},
		{cups(1024, 1, 0), 1, 4, 1, 2048, 0, 1, [][]int{{0, 1}}},
		{cups(1024, 1000<<10-1, 1000<<10), 0, 1, 2000<<10 - 1, 2048, 1000<<10 - 1, 1024, [][]int{{0, 1}}},
		{cups(1, 5, 5, 5), 1, 4, 5, 1, 5, 1, nil},
		{cups(1, 0, 0), 1, 4, 0, 1, 0, 1, nil},
		{cups(1, 1000, 1000, 0), 2, 1, 500, 1, 0, 1, [][]int{{0, 2}}},
		{cups(1, 1000, 1000, 0), 2, 2, 750, 1, 0, 1, [][]int{{0, 2}, {1, 2}}},
	} {
		wantGreatest(t, r.c, r.cup, r.mixes, r.greatest, r.under)
		wantLeast(t, r.c, r.cup, r.mixes, r.least, r.itsUnder)
		wantFirstGreatest(t, r.c, r.cup, r.mixes, r.first)
	}
}

func TestMixesToAlike(t *testing.T) {
	// These are alike from the first on.
	wantAlike(t, cups(1, 0, 0), nil)
	wantAlike(t, cups(1, 5, 5, 5), nil)
	wantAlike(t, cups(1024, 5, 5, 5, 5), nil)
	wantAlike(t, cups(1, 1000, 1000, 1000, 1000), nil)
	// These need mixes.
	wantAlike(t, cups(1, 0, 1), [][]int{{0, 1}})
	wantAlike(t, cups(1024, 1, 0), [][]int{{0, 1}})
	wantAlike(t, cups(1, 3, 1, 2), [][]int{{0, 1}})
	wantAlike(t, cups(1, 1, 2, 3), [][]int{{0, 2}})
	wantAlike(t, cups(1, 1, 3, 1, 3), [][]int{{0, 1}, {2, 3}})
	wantAlike(t, cups(1, 1, 1, 3, 3), [][]int{{0, 2}, {1, 3}})
	wantAlike(t, cups(1, 0, 4, 0, 0), [][]int{{0, 1}, {0, 2}, {1, 3}})
	wantAlike(t, cups(1, 0, 0, 0, 4), [][]int{{0, 3}, {0, 1}, {2, 3}})
	wantAlike(t, cups(1, 1, 2, 3, 6), [][]int{{0, 1}, {2, 3}, {0, 2}, {1, 3}})
	wantAlike(t, cups(1024, 1, 0, 0, 0), [][]int{{0, 1}, {0, 2}, {1, 3}})
	// Three cups, two of which cannot be mixed to what the third one has, and four with such a three.
	for most := range 6 {
		wantNeverAlike(t, cups(1, 4, 0, 0), most)
		wantNeverAlike(t, cups(1, 1, 2, 4), most)
		wantNeverAlike(t, cups(2, 1, 0, 0), most)
	}
}

func TestCountsOfMixedCups(t *testing.T) {
	for _, r := range []struct {
		c    impl.Cups
		want []int
	}{
		{cups(1, 0, 0), []int{1, 1, 1, 1, 1}},
		{cups(1, 5, 5, 5, 5), []int{1, 1, 1, 1, 1}},
		{cups(1, 0, 1), []int{1, 1, 1, 1, 1}},
		{cups(1, 3, 0, 0), []int{1, 3, 6, 9, 12}},
		{cups(1, 1, 2, 4), []int{1, 3, 9, 17, 24}},
		{cups(1, 4, 0, 4, 0), []int{1, 5, 18, 55, 152}},
		{cups(1, 4, 0, 0, 0), []int{1, 4, 13, 35, 86}},
		{cups(1, 1, 2, 4, 8), []int{1, 6, 33, 139, 490}},
		{cups(1024, 1, 2, 4, 8), []int{1, 6, 33, 139, 490}},
	} {
		for mixes, want := range r.want {
			wantCountMixed(t, r.c, mixes, want)
		}
	}
}
