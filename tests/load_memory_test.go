package tests

import (
	"fmt"
	"testing"

	"loop.example/g01333/impl"
)

// jobLists are jobs of all sorts, and lists that are none.
func jobLists() [][]int {
	return [][]int{{}, {1}, {1000}, {0}, {1001}, {-1}, {5, 5}, {2, 3, 4, 6}, {6, 4, 3, 2}, {3, 2, 3, 2}, {1, -1, 2}, repeated(1, 9), {9, 1, 8, 2, 7, 3, 6, 4, 5}, repeated(1, 10)}
}

// planLists are plans of some of these, and lists that are none.
func planLists() [][]int {
	return [][]int{{}, {0}, {3}, {-1}, {4}, {0, 0}, {1, 0}, {0, 0, 0, 0}, {0, 1, 1, 0}, {0, 0, 1, 1}, {2, 1, 0, 2}, {0, 4, 0, 0}, repeated(0, 9), {3, 2, 1, 0, 3, 2, 1, 0, 3}, repeated(0, 10)}
}

// onJobs calls with a list as jobs, on some machines, by a plan.
func onJobs(calls []planCall, machines int, plan []int) []heapCall {
	var list []heapCall
	for _, c := range calls {
		list = append(list, heapCall{fmt.Sprint(c.name, " on ", machines, " by ", plan), func(jobs []int) []any { return c.call(jobs, machines, plan) }})
	}
	return list
}

func TestJobsAndResultsAreApart(t *testing.T) {
	checkApart(t, onlyJobsCalls(), jobLists())
	for _, machines := range []int{0, 1, 2, 4, 5} {
		checkApart(t, onJobs(allPlanCalls(), machines, []int{0, 0, 0, 0}), jobLists())
	}
}

func TestPlansAndResultsAreApart(t *testing.T) {
	for _, machines := range []int{0, 1, 3, 4} {
		for _, jobs := range [][]int{{}, {7}, {5, 5}, {2, 3, 4, 6}, {3, 2, 3, 2}, {9, 1, 8, 2, 7, 3, 6, 4, 5}, {0, 0, 0, 0}} {
			for _, plan := range planLists() {
				for _, c := range append(append(planCalls(), bestMoveCalls()...), isPlanCalls()...) {
					checkTwoApart(t, fmt.Sprint(c.name, " on ", machines), jobs, plan, func(j []int, p []int) []any { return c.call(j, machines, p) })
				}
			}
		}
	}
}

func TestTextsOfPlansAreApart(t *testing.T) {
	calls := []heapCall{{"PlanText", func(plan []int) []any { a, ok := impl.PlanText(plan); return []any{a, ok} }}}
	checkApart(t, calls, planLists())
	for range 3 {
		plan, ok := impl.ParsePlan("0312")
		wantSame(t, "ParsePlan", []any{plan, ok}, []int{0, 3, 1, 2}, true)
		spoil([]any{plan})
	}
}

// What is behind a list's length would change each of these results.
func TestSpareCapacityBehindJobsIsNotRead(t *testing.T) {
	row := []int{2, 3, 4, 6, 1001, 0}
	wantAreJobs(t, row[:4], true)
	wantAreJobs(t, row[:5], false)
	wantAreJobs(t, row[:0], false)
	wantMachines(t, row[:3], 9, 1)
	wantJobs(t, "EndBound", row[:3], 2, 5)
	wantJobs(t, "LeastEnd", row[:3], 2, 5)
	wantJobs(t, "CountBestPlans", row[:2], 2, 2)
	wantJobs(t, "PlanInOrder", row[:2], 2, []int{0, 1})
	wantJobs(t, "PlanLongestFirst", row[:2], 2, []int{1, 0})
	wantJobs(t, "FirstBestPlan", row[:2], 2, []int{0, 1})
	wantJobs(t, "LeastSumOfEnds", row[:2], 1, 7)
	plan := []int{0, 1, 0, 9, -1}
	wantPlan(t, "IsLoadPlan", row[:3], 2, plan[:3], true, true)
	wantPlan(t, "IsLoadPlan", row[:4], 2, plan[:4], false, true)
	wantPlan(t, "LoadsOf", row[:3], 2, plan[:3], []int{6, 3}, true)
	wantNoPlan(t, row[:3], 2, plan[:2])
	wantPlanText(t, plan[:3], "010")
	wantNoPlanText(t, plan[:0])
}

func TestLoadCallsAtTheSameTime(t *testing.T) {
	checkAtTheSameTime(t, onlyJobsCalls(), []int{2, 3, 4, 6}, 20)
	checkAtTheSameTime(t, onJobs(allPlanCalls(), 3, []int{0, 0, 0, 0}), []int{2, 3, 4, 6}, 20)
}
