package tests

import (
	"fmt"
	"slices"
	"testing"

	"loop.example/g01333/impl"
)

// The searches of this file know only what a load and an end are, and try all plans, all orders and all moves.

func loadsBy(jobs []int, machines int, plan []int) []int {
	loads := make([]int, machines)
	for machine := range machines {
		for job, time := range jobs {
			if plan[job] == machine {
				loads[machine] += time
			}
		}
	}
	return loads
}

func endBy(jobs []int, machines int, plan []int) int {
	return slices.Max(loadsBy(jobs, machines, plan))
}

func totalOf(list []int) int {
	total := 0
	for _, n := range list {
		total += n
	}
	return total
}

// leastSumFrom tries all orders of jobs on one machine that begins at a time.
func leastSumFrom(begin int, times []int) int {
	least := -1
	for k, time := range times {
		rest := slices.Delete(slices.Clone(times), k, k+1)
		sum := begin + time + leastSumFrom(begin+time, rest)
		if least < 0 || sum < least {
			least = sum
		}
	}
	return max(least, 0)
}

func leastSumBy(jobs []int, machines int, plan []int) int {
	sum := 0
	for machine := range machines {
		var times []int
		for job, time := range jobs {
			if plan[job] == machine {
				times = append(times, time)
			}
		}
		sum += leastSumFrom(0, times)
	}
	return sum
}

// fewestParts tries all sets of jobs, told as bits, for the machine of the first one that is left.
func fewestParts(jobs []int, end int, left int) int {
	if left == 0 {
		return 0
	}
	fewest := len(jobs)
	for set := left; set > 0; set = (set - 1) & left {
		load := 0
		for job, time := range jobs {
			if set&(1<<job) != 0 {
				load += time
			}
		}
		if load <= end && set&(left&-left) != 0 {
			fewest = min(fewest, 1+fewestParts(jobs, end, left&^set))
		}
	}
	return fewest
}

// moveBy tries all moves of one job in order.
func moveBy(jobs []int, machines int, plan []int) (int, int, bool) {
	least := endBy(jobs, machines, plan)
	job, machine, found := 0, 0, false
	for j := range jobs {
		for m := range machines {
			behind := slices.Clone(plan)
			behind[j] = m
			if end := endBy(jobs, machines, behind); end < least {
				least, job, machine, found = end, j, m, true
			}
		}
	}
	return job, machine, found
}

func givenBy(jobs []int, machines int, next func(given []bool) int) []int {
	plan, loads, given := make([]int, len(jobs)), make([]int, machines), make([]bool, len(jobs))
	for range jobs {
		job := next(given)
		machine := slices.Index(loads, slices.Min(loads))
		plan[job], given[job] = machine, true
		loads[machine] += jobs[job]
	}
	return plan
}

func inOrder(given []bool) int {
	return slices.Index(given, false)
}

func longestOf(jobs []int) func(given []bool) int {
	return func(given []bool) int {
		longest := slices.Index(given, false)
		for job, time := range jobs {
			if !given[job] && time > jobs[longest] {
				longest = job
			}
		}
		return longest
	}
}

// checkPlan holds what is told of one plan against all orders and all moves.
func checkPlan(t *testing.T, jobs []int, machines int, plan []int) {
	t.Helper()
	loads, end := loadsBy(jobs, machines, plan), endBy(jobs, machines, plan)
	wantPlan(t, "IsLoadPlan", jobs, machines, plan, true, true)
	wantPlan(t, "LoadsOf", jobs, machines, plan, loads, true)
	if got, _ := impl.LoadsOf(jobs, machines, plan); totalOf(got) != totalOf(jobs) {
		t.Errorf("LoadsOf %v on %d by %v: %v have another sum", jobs, machines, plan, got)
	}
	wantPlan(t, "EndOfPlan", jobs, machines, plan, end, true)
	idle := 0
	for _, load := range loads {
		idle += end - load
	}
	wantPlan(t, "IdleOfPlan", jobs, machines, plan, idle, true)
	checkMoves(t, jobs, machines, plan)
}

// checkMoves follows the moves of SettlePlan one by one.
func checkMoves(t *testing.T, jobs []int, machines int, plan []int) {
	t.Helper()
	at, moves := slices.Clone(plan), 0
	for {
		job, machine, found := moveBy(jobs, machines, at)
		if !found {
			break
		}
		wantMove(t, jobs, machines, at, job, machine)
		at[job] = machine
		moves++
	}
	wantSettled(t, jobs, machines, at)
	wantPlan(t, "SettlePlan", jobs, machines, plan, at, moves, true)
}

// checkJobs holds what is told of jobs against all plans, but for LeastSumOfEnds.
func checkJobs(t *testing.T, jobs []int, machines int) {
	t.Helper()
	bound, _ := impl.EndBound(jobs, machines)
	least, count := totalOf(jobs)+1, 0
	var first []int
	eachList(len(jobs), machines-1, func(plan []int) {
		end := endBy(jobs, machines, plan)
		if end < bound {
			t.Errorf("%v on %d end at %d by %v, before their bound of %d", jobs, machines, end, plan, bound)
		}
		if end < least {
			least, first, count = end, plan, 0
		}
		if end == least {
			count++
		}
	})
	wantJobs(t, "LeastEnd", jobs, machines, least)
	wantJobs(t, "FirstBestPlan", jobs, machines, first)
	wantJobs(t, "CountBestPlans", jobs, machines, count)
	wantJobs(t, "PlanInOrder", jobs, machines, givenBy(jobs, machines, inOrder))
	wantJobs(t, "PlanLongestFirst", jobs, machines, givenBy(jobs, machines, longestOf(jobs)))
	checkBound(t, jobs, machines, bound)
}

// checkBound asks that the bound is the least time that is as long as each job and in which all jobs have room.
func checkBound(t *testing.T, jobs []int, machines int, bound int) {
	t.Helper()
	hasRoom := func(time int) bool { return time >= slices.Max(jobs) && time*machines >= totalOf(jobs) }
	if !hasRoom(bound) || hasRoom(bound-1) {
		t.Errorf("EndBound of %v on %d is %d", jobs, machines, bound)
	}
}

// checkSumsOfEnds holds SumOfEnds and LeastSumOfEnds against all plans and all orders.
func checkSumsOfEnds(t *testing.T, jobs []int, machines int) {
	t.Helper()
	told, _ := impl.LeastSumOfEnds(jobs, machines)
	reached := false
	eachList(len(jobs), machines-1, func(plan []int) {
		sum := leastSumBy(jobs, machines, plan)
		wantPlan(t, "SumOfEnds", jobs, machines, plan, sum, true)
		if sum < told {
			t.Errorf("LeastSumOfEnds of %v on %d is %d, but %d by %v", jobs, machines, told, sum, plan)
		}
		reached = reached || sum == told
	})
	if !reached {
		t.Errorf("LeastSumOfEnds of %v on %d is %d, which no plan reaches", jobs, machines, told)
	}
}

func checkMachines(t *testing.T, jobs []int, end int) {
	t.Helper()
	if end < slices.Max(jobs) {
		wantNoMachines(t, jobs, end)
		return
	}
	want := fewestParts(jobs, end, 1<<len(jobs)-1)
	wantMachines(t, jobs, end, want)
	for machines := 1; machines <= 4; machines++ {
		least, ok := impl.LeastEnd(jobs, machines)
		if !ok || (least <= end) != (want <= machines) {
			t.Errorf("LeastEnd of %v on %d is %d, %v, but MachinesFor %d is %d", jobs, machines, least, ok, end, want)
		}
	}
}

// timesFrom makes each number of a list greater by one, because there are no jobs without a time.
func timesFrom(list []int) []int {
	var jobs []int
	for _, n := range list {
		jobs = append(jobs, n+1)
	}
	return jobs
}

func TestAllShortJobs(t *testing.T) {
	for size, most := range map[int]int{1: 4, 2: 4, 3: 3, 4: 2} {
		eachList(size, most-1, func(list []int) {
			jobs := timesFrom(list)
			for machines := 1; machines <= 4; machines++ {
				checkJobs(t, jobs, machines)
				checkSumsOfEnds(t, jobs, machines)
				eachList(size, machines-1, func(plan []int) { checkPlan(t, jobs, machines, plan) })
			}
			for end := range totalOf(jobs) + 3 {
				checkMachines(t, jobs, end)
			}
		})
	}
}

func someJobs(next func(int) int, size int) []int {
	below := []int{1, 2, 4, 12, 1000}[next(5)]
	jobs := make([]int, size)
	for job := range jobs {
		jobs[job] = 1 + next(below)
		if next(12) == 0 {
			jobs[job] = []int{1, 1000}[next(2)]
		}
	}
	return jobs
}

func somePlan(next func(int) int, size int, machines int) []int {
	plan := make([]int, size)
	most := 1 + next(machines)
	for job := range plan {
		plan[job] = next(most)
	}
	return plan
}

func TestSomeJobs(t *testing.T) {
	next := random(61)
	for range 300 {
		checkJobs(t, someJobs(next, 1+next(6)), 1+next(4))
	}
	for range 60 {
		checkJobs(t, someJobs(next, 7+next(3)), 1+next(3))
	}
	for _, jobs := range [][]int{repeated(7, 9), {1, 2, 3, 4, 5, 6, 7, 8, 9}, {999, 1000, 1, 500, 501, 499, 2, 1000, 3}, {13, 11, 7, 7, 5, 5, 3, 3, 2}} {
		checkJobs(t, jobs, 4)
	}
}

func TestSomePlans(t *testing.T) {
	next := random(62)
	several := 0
	for range 3000 {
		size, machines := 1+next(9), 1+next(4)
		jobs := someJobs(next, size)
		plan := somePlan(next, size, machines)
		checkPlan(t, jobs, machines, plan)
		if _, moves, _ := impl.SettlePlan(jobs, machines, plan); moves > 1 {
			several++
		}
	}
	if several < 300 {
		t.Error("only so many plans are settled behind several moves:", several)
	}
}

func TestSomeSums(t *testing.T) {
	next := random(63)
	for range 60 {
		checkSumsOfEnds(t, someJobs(next, 1+next(5)), 1+next(4))
	}
	checkSumsOfEnds(t, []int{5, 1, 4, 4, 2, 9}, 3)
	// All orders of nine jobs are many, and so this is one plan alone.
	jobs, plan := []int{8, 3, 5, 1, 9, 2, 7, 6, 4}, []int{0, 0, 0, 1, 0, 0, 0, 0, 0}
	wantPlan(t, "SumOfEnds", jobs, 2, plan, leastSumBy(jobs, 2, plan), true)
}

func TestSomeMachines(t *testing.T) {
	next := random(64)
	needed := map[int]int{}
	for range 400 {
		jobs := someJobs(next, 1+next(9))
		longest := slices.Max(jobs)
		for _, end := range []int{longest - 1, longest, longest + 1, longest + next(longest), longest + next(totalOf(jobs)), totalOf(jobs) - 1, totalOf(jobs), totalOf(jobs) + 1} {
			checkMachines(t, jobs, end)
			machines, _ := impl.MachinesFor(jobs, end)
			needed[machines]++
		}
	}
	for machines := range 10 {
		if needed[machines] == 0 {
			t.Error("no jobs need just so many machines:", machines)
		}
	}
}

// Best plans end as soon as any, and no plan that is made in another way ends sooner.
func TestOtherPlansEndNoSooner(t *testing.T) {
	next := random(65)
	for range 500 {
		size, machines := 1+next(9), 1+next(4)
		jobs := someJobs(next, size)
		least, _ := impl.LeastEnd(jobs, machines)
		for _, c := range jobsCalls() {
			results := c.call(jobs, machines)
			plan, isPlan := results[0].([]int)
			if !isPlan {
				continue
			}
			settled, _, _ := impl.SettlePlan(jobs, machines, plan)
			end, ok := impl.EndOfPlan(jobs, machines, plan)
			settledEnd, settledOK := impl.EndOfPlan(jobs, machines, settled)
			what := fmt.Sprintf("%s of %v on %d: %v and settled %v", c.name, jobs, machines, plan, settled)
			if !ok || !settledOK || end < settledEnd || settledEnd < least || c.name == "FirstBestPlan" && end != least {
				t.Errorf("%s end at %d and %d, the least end is %d", what, end, settledEnd, least)
			}
		}
	}
}
