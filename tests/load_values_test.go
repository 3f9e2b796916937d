package tests

import (
	"slices"
	"testing"

	"loop.example/g01333/impl"
)

func TestLoadExample(t *testing.T) {
	jobs := []int{2, 3, 4, 6}
	for _, r := range []struct {
		name  string
		text  string
		plan  []int
		loads []int
	}{
		{"PlanInOrder", "0101", []int{0, 1, 0, 1}, []int{6, 9}},
		{"PlanLongestFirst", "0110", []int{0, 1, 1, 0}, []int{8, 7}},
		{"FirstBestPlan", "0110", []int{0, 1, 1, 0}, []int{8, 7}},
	} {
		wantJobs(t, r.name, jobs, 2, r.plan)
		wantPlan(t, "LoadsOf", jobs, 2, r.plan, r.loads, true)
		text, ok := impl.PlanText(r.plan)
		wantSame(t, "PlanText", []any{text, ok}, r.text, true)
		plan, ok := impl.ParsePlan(r.text)
		wantSame(t, "ParsePlan", []any{plan, ok}, r.plan, true)
	}
	wantJobs(t, "LeastEnd", jobs, 2, 8)
	wantJobs(t, "EndBound", jobs, 2, 8)
	wantJobs(t, "CountBestPlans", jobs, 2, 2)
	wantMove(t, jobs, 2, []int{0, 0, 0, 0}, 3, 1)
	wantJobs(t, "LeastSumOfEnds", jobs, 2, 20)
	wantMachines(t, jobs, 6, 3)
}

func TestLoadConstants(t *testing.T) {
	if impl.MaxJobs != 9 || impl.MaxMachines != 4 || impl.MaxJob != 1000 {
		t.Error("the constants are", impl.MaxJobs, impl.MaxMachines, impl.MaxJob)
	}
}

func TestLoadsOfPlans(t *testing.T) {
	for _, r := range []struct {
		jobs           []int
		machines       int
		plan           []int
		loads          []int
		end, idle, sum int
	}{
		{[]int{1}, 1, []int{0}, []int{1}, 1, 0, 1},
		{[]int{1000}, 4, []int{2}, []int{0, 0, 1000, 0}, 1000, 3000, 1000},
		{[]int{2, 3, 4, 6}, 2, []int{0, 1, 0, 1}, []int{6, 9}, 9, 3, 20},
		{[]int{2, 3, 4, 6}, 2, []int{0, 1, 1, 0}, []int{8, 7}, 8, 1, 20},
		{[]int{2, 3, 4, 6}, 2, []int{0, 0, 0, 0}, []int{15, 0}, 15, 15, 31},
		{[]int{6, 4, 3, 2}, 1, []int{0, 0, 0, 0}, []int{15}, 15, 0, 31},
		{[]int{6, 4, 3, 2}, 3, []int{1, 2, 2, 2}, []int{0, 6, 9}, 9, 12, 22},
		{[]int{2, 2, 2}, 3, []int{2, 0, 1}, []int{2, 2, 2}, 2, 0, 6},
		{[]int{5, 5, 5, 5}, 4, []int{3, 3, 3, 3}, []int{0, 0, 0, 20}, 20, 60, 50},
		{[]int{7, 1}, 4, []int{0, 0}, []int{8, 0, 0, 0}, 8, 24, 9},
		{[]int{1, 7}, 4, []int{0, 0}, []int{8, 0, 0, 0}, 8, 24, 9},
		{repeated(1000, 9), 1, repeated(0, 9), []int{9000}, 9000, 0, 45000},
		{repeated(1000, 9), 4, repeated(3, 9), []int{0, 0, 0, 9000}, 9000, 27000, 45000},
		{[]int{1, 2, 3, 4, 5, 6, 7, 8, 9}, 3, []int{0, 1, 2, 0, 1, 2, 0, 1, 2}, []int{12, 15, 18}, 18, 9, 18 + 24 + 30},
	} {
		wantPlan(t, "IsLoadPlan", r.jobs, r.machines, r.plan, true, true)
		wantPlan(t, "LoadsOf", r.jobs, r.machines, r.plan, r.loads, true)
		wantPlan(t, "EndOfPlan", r.jobs, r.machines, r.plan, r.end, true)
		wantPlan(t, "IdleOfPlan", r.jobs, r.machines, r.plan, r.idle, true)
		wantPlan(t, "SumOfEnds", r.jobs, r.machines, r.plan, r.sum, true)
	}
}

func TestJobsThatAreGivenOut(t *testing.T) {
	for _, r := range []struct {
		jobs           []int
		machines       int
		order, longest []int
	}{
		{[]int{5}, 1, []int{0}, []int{0}},
		{[]int{5}, 4, []int{0}, []int{0}},
		{[]int{1, 2, 3}, 1, []int{0, 0, 0}, []int{0, 0, 0}},
		// There are more machines than jobs.
		{[]int{7, 5}, 4, []int{0, 1}, []int{0, 1}},
		{[]int{5, 7}, 4, []int{0, 1}, []int{1, 0}},
		{[]int{1, 2, 3}, 4, []int{0, 1, 2}, []int{2, 1, 0}},
		// All jobs are equal.
		{repeated(5, 9), 4, []int{0, 1, 2, 3, 0, 1, 2, 3, 0}, []int{0, 1, 2, 3, 0, 1, 2, 3, 0}},
		{repeated(1000, 9), 2, []int{0, 1, 0, 1, 0, 1, 0, 1, 0}, []int{0, 1, 0, 1, 0, 1, 0, 1, 0}},
		// Some jobs are as long as others.
		{[]int{3, 5, 5, 3}, 2, []int{0, 1, 0, 1}, []int{0, 0, 1, 1}},
		{[]int{1, 5, 3, 5, 3}, 3, []int{0, 1, 2, 0, 2}, []int{0, 0, 2, 1, 2}},
		{[]int{4, 4, 9, 4, 4}, 2, []int{0, 1, 0, 1, 1}, []int{1, 1, 0, 1, 0}},
		// Several machines have the least load again.
		{[]int{2, 2, 1, 1, 7}, 2, []int{0, 1, 0, 1, 0}, []int{1, 1, 1, 1, 0}},
		{[]int{3, 1, 2, 3, 6}, 3, []int{0, 1, 2, 1, 2}, []int{1, 2, 1, 2, 0}},
		{[]int{9, 8, 7, 6, 5, 4, 3, 2, 1}, 3, []int{0, 1, 2, 2, 1, 0, 0, 1, 2}, []int{0, 1, 2, 2, 1, 0, 0, 1, 2}},
		{[]int{1, 2, 3, 4, 5, 6, 7, 8, 9}, 3, []int{0, 1, 2, 0, 1, 2, 0, 1, 2}, []int{2, 1, 0, 0, 1, 2, 2, 1, 0}},
	} {
		wantJobs(t, "PlanInOrder", r.jobs, r.machines, r.order)
		wantJobs(t, "PlanLongestFirst", r.jobs, r.machines, r.longest)
	}
}

func TestBestPlansAndBounds(t *testing.T) {
	for _, r := range []struct {
		jobs         []int
		machines     int
		bound, least int
		first        []int
		count        int
	}{
		{[]int{5}, 1, 5, 5, []int{0}, 1},
		{[]int{5}, 4, 5, 5, []int{0}, 4},
		{[]int{1, 2, 3}, 1, 6, 6, []int{0, 0, 0}, 1},
		{repeated(1000, 9), 1, 9000, 9000, repeated(0, 9), 1},
		// There are more machines than jobs.
		{[]int{7, 5}, 4, 7, 7, []int{0, 1}, 12},
		{[]int{5, 2, 3}, 4, 5, 5, []int{0, 1, 1}, 36},
		// The sum is divided without a rest, and with one.
		{[]int{2, 3, 4, 6, 5}, 2, 10, 10, []int{0, 0, 1, 1, 0}, 2},
		{[]int{1, 2, 3, 4, 5}, 2, 8, 8, []int{0, 0, 1, 0, 1}, 6},
		{[]int{2, 3, 4, 6}, 2, 8, 8, []int{0, 1, 1, 0}, 2},
		{[]int{2, 3, 4, 6, 5}, 3, 7, 7, []int{0, 1, 1, 2, 0}, 6},
		// The longest job is greater than the sum divided by machines, and just as great.
		{[]int{10, 1, 1}, 2, 10, 10, []int{0, 1, 1}, 2},
		{[]int{1, 10, 1, 1}, 4, 10, 10, []int{0, 1, 0, 0}, 4 * 27},
		{[]int{3, 1, 2}, 2, 3, 3, []int{0, 1, 1}, 2},
		{[]int{2, 3, 4, 6, 5}, 4, 6, 6, []int{0, 0, 1, 2, 3}, 48},
		// No plan has the bound as its end.
		{[]int{3, 3, 3}, 2, 5, 6, []int{0, 0, 1}, 6},
		{repeated(5, 4), 3, 7, 10, []int{0, 0, 1, 1}, 54},
		{repeated(1, 9), 4, 3, 3, []int{0, 0, 0, 1, 1, 1, 2, 2, 2}, 97440},
		{repeated(1000, 9), 4, 2250, 3000, []int{0, 0, 0, 1, 1, 1, 2, 2, 2}, 97440},
		{repeated(1000, 9), 2, 4500, 5000, []int{0, 0, 0, 0, 0, 1, 1, 1, 1}, 252},
	} {
		wantJobs(t, "EndBound", r.jobs, r.machines, r.bound)
		wantJobs(t, "LeastEnd", r.jobs, r.machines, r.least)
		wantJobs(t, "FirstBestPlan", r.jobs, r.machines, r.first)
		wantJobs(t, "CountBestPlans", r.jobs, r.machines, r.count)
	}
}

func TestMachinesThatAreNeeded(t *testing.T) {
	for end, want := range map[int]int{6: 3, 7: 3, 8: 2, 9: 2, 14: 2, 15: 1, 16: 1, 9999: 1, 10000: 1} {
		wantMachines(t, []int{2, 3, 4, 6}, end, want)
	}
	for end := range 6 {
		wantNoMachines(t, []int{2, 3, 4, 6}, end)
	}
	// More machines may be needed than MaxMachines.
	for end, want := range map[int]int{1000: 9, 1999: 9, 2000: 5, 2999: 5, 3000: 3, 4999: 3, 5000: 2, 8999: 2, 9000: 1, 10000: 1} {
		wantMachines(t, repeated(1000, 9), end, want)
	}
	wantNoMachines(t, repeated(1000, 9), 999)
	wantMachines(t, []int{5, 5, 5, 5, 5}, 9, 5)
	wantMachines(t, []int{5, 5, 5, 5, 5, 4}, 9, 5)
	wantMachines(t, []int{4, 5, 5, 5, 5, 5, 4, 1}, 9, 5)
	wantMachines(t, []int{4, 5, 5, 5, 5, 5, 5}, 9, 6)
	wantMachines(t, []int{4, 5, 5, 5, 5, 5, 5}, 8, 7)
	wantMachines(t, []int{1000, 999, 998, 997, 996, 995, 994, 993, 992}, 1000, 9)
	// One job: its own length is the least end.
	wantMachines(t, []int{1}, 1, 1)
	wantMachines(t, []int{1}, 10000, 1)
	wantMachines(t, []int{1000}, 1000, 1)
	wantNoMachines(t, []int{1000}, 999)
	wantNoMachines(t, []int{2}, 1)
	// Each job fits on the first machine that has room, but then one machine more is needed.
	wantMachines(t, []int{3, 3, 2, 2, 2}, 6, 2)
	wantMachines(t, []int{4, 6, 5, 5}, 10, 2)
	wantMachines(t, []int{2, 8, 3, 7, 4, 6, 5, 5}, 10, 4)
}

func TestSumsOfEnds(t *testing.T) {
	for _, r := range []struct {
		jobs     []int
		machines int
		want     int
	}{
		{[]int{1}, 1, 1},
		{[]int{1000}, 4, 1000},
		{[]int{2, 3, 4, 6}, 1, 2 + 5 + 9 + 15},
		{[]int{6, 4, 3, 2}, 1, 2 + 5 + 9 + 15},
		{[]int{2, 3, 4, 6}, 2, 20},
		{[]int{6, 2, 4, 3}, 3, 3 + 4 + 2 + 8},
		{[]int{2, 3, 4, 6}, 4, 15},
		{[]int{7, 5}, 4, 12},
		{repeated(1, 9), 1, 45},
		{repeated(1000, 9), 1, 45000},
		{repeated(1000, 9), 4, 4000 + 8000 + 3000},
		{[]int{1, 2, 3, 4, 5, 6, 7, 8, 9}, 3, 9 + 8 + 7 + 2*(6+5+4) + 3*(3+2+1)},
		{[]int{1, 2, 3, 4, 5, 6, 7, 8, 9}, 4, 9 + 8 + 7 + 6 + 2*(5+4+3+2) + 3*1},
	} {
		wantJobs(t, "LeastSumOfEnds", r.jobs, r.machines, r.want)
	}
	wantPlan(t, "SumOfEnds", []int{9, 1, 5}, 1, []int{0, 0, 0}, 1+6+15, true)
	wantPlan(t, "SumOfEnds", []int{9, 1, 5}, 2, []int{0, 1, 0}, 5+14+1, true)
	wantPlan(t, "SumOfEnds", []int{9, 1, 5}, 3, []int{0, 1, 2}, 15, true)
	wantPlan(t, "SumOfEnds", []int{9, 1, 5}, 3, []int{2, 2, 2}, 1+6+15, true)
	wantPlan(t, "SumOfEnds", []int{4, 4, 4}, 2, []int{1, 1, 0}, 4+8+4, true)
}

func TestBestMoves(t *testing.T) {
	for _, r := range []struct {
		jobs         []int
		machines     int
		plan         []int
		job, machine int
	}{
		{[]int{2, 3, 4, 6}, 2, []int{0, 0, 0, 0}, 3, 1},
		{[]int{2, 3, 4, 6}, 2, []int{0, 0, 0, 1}, 0, 1},
		{[]int{2, 3, 4, 6}, 2, []int{1, 1, 1, 1}, 3, 0},
		// The longest job is not the one to move.
		{[]int{9, 1, 3}, 2, []int{0, 0, 1}, 1, 1},
		{[]int{9, 4, 2, 6}, 2, []int{0, 0, 0, 1}, 1, 1},
		// Several moves make the end equally less: the first job, and then the first machine.
		{[]int{4, 4, 1}, 2, []int{0, 0, 0}, 0, 1},
		{[]int{1, 4, 4}, 2, []int{0, 0, 0}, 1, 1},
		{[]int{4, 4}, 4, []int{0, 0}, 0, 1},
		{[]int{4, 4}, 4, []int{1, 1}, 0, 0},
		{[]int{4, 4}, 4, []int{3, 3}, 0, 0},
		{[]int{5, 5, 2}, 3, []int{2, 2, 0}, 0, 1},
		{[]int{5, 5, 3, 3}, 4, []int{3, 3, 0, 2}, 0, 1},
	} {
		wantMove(t, r.jobs, r.machines, r.plan, r.job, r.machine)
	}
}

func TestSettledPlans(t *testing.T) {
	wantSettled(t, []int{2, 3, 4, 6}, 2, []int{0, 1, 1, 0})
	// One machine, and one job, leave nothing to do.
	wantSettled(t, []int{1}, 1, []int{0})
	wantSettled(t, []int{1, 2, 3}, 1, []int{0, 0, 0})
	wantSettled(t, []int{7}, 4, []int{2})
	// Two machines have the greatest load: no job that is moved alone makes the end less.
	wantSettled(t, []int{5, 5}, 2, []int{0, 1})
	wantSettled(t, []int{5, 5}, 4, []int{3, 1})
	wantSettled(t, []int{3, 2, 3, 2}, 3, []int{0, 0, 1, 1})
	wantJobs(t, "LeastEnd", []int{3, 2, 3, 2}, 3, 4)
	wantSettled(t, []int{1, 1, 1, 3}, 3, []int{0, 0, 0, 1})
	wantJobs(t, "LeastEnd", []int{1, 1, 1, 3}, 3, 3)
	// The end would be just as great.
	wantSettled(t, []int{3, 3}, 2, []int{1, 0})
	wantSettled(t, []int{3, 2, 3}, 2, []int{0, 0, 1})
}

func TestPlansThatAreSettled(t *testing.T) {
	for _, r := range []struct {
		jobs     []int
		machines int
		plan     []int
		want     []int
		moves    int
	}{
		{[]int{2, 3, 4, 6}, 2, []int{0, 1, 1, 0}, []int{0, 1, 1, 0}, 0},
		{[]int{2, 3, 4, 6}, 2, []int{0, 1, 0, 1}, []int{0, 1, 0, 1}, 0},
		{[]int{2, 3, 4, 6}, 2, []int{0, 0, 0, 1}, []int{1, 0, 0, 1}, 1},
		{[]int{2, 3, 4, 6}, 2, []int{0, 0, 0, 0}, []int{1, 0, 0, 1}, 2},
		{[]int{4, 4}, 4, []int{3, 3}, []int{0, 3}, 1},
		{repeated(1, 9), 4, repeated(0, 9), []int{1, 1, 1, 1, 2, 0, 0, 0, 0}, 5},
		{repeated(1000, 9), 4, repeated(0, 9), []int{1, 1, 1, 1, 2, 0, 0, 0, 0}, 5},
		{repeated(1, 9), 1, repeated(0, 9), repeated(0, 9), 0},
		{repeated(7, 9), 2, repeated(1, 9), []int{0, 0, 0, 0, 1, 1, 1, 1, 1}, 4},
	} {
		wantPlan(t, "SettlePlan", r.jobs, r.machines, r.plan, r.want, r.moves, true)
		wantPlan(t, "IsSettledPlan", r.jobs, r.machines, r.plan, slices.Equal(r.plan, r.want), true)
		wantSettled(t, r.jobs, r.machines, r.want)
	}
}
