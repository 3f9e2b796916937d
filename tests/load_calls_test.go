package tests

import (
	"fmt"
	"testing"

	"loop.example/g01333/impl"
)

// A jobsCall calls a function with jobs and machines, and collects the results.
type jobsCall struct {
	name string
	call func(jobs []int, machines int) []any
}

// jobsCalls succeed for all jobs on all numbers of machines.
func jobsCalls() []jobsCall {
	return []jobsCall{
		{"PlanInOrder", func(j []int, m int) []any { a, ok := impl.PlanInOrder(j, m); return []any{a, ok} }},
		{"PlanLongestFirst", func(j []int, m int) []any { a, ok := impl.PlanLongestFirst(j, m); return []any{a, ok} }},
		{"LeastEnd", func(j []int, m int) []any { a, ok := impl.LeastEnd(j, m); return []any{a, ok} }},
		{"FirstBestPlan", func(j []int, m int) []any { a, ok := impl.FirstBestPlan(j, m); return []any{a, ok} }},
		{"CountBestPlans", func(j []int, m int) []any { a, ok := impl.CountBestPlans(j, m); return []any{a, ok} }},
		{"EndBound", func(j []int, m int) []any { a, ok := impl.EndBound(j, m); return []any{a, ok} }},
		{"LeastSumOfEnds", func(j []int, m int) []any { a, ok := impl.LeastSumOfEnds(j, m); return []any{a, ok} }},
	}
}

// A planCall calls a function with a plan as well.
type planCall struct {
	name string
	call func(jobs []int, machines int, plan []int) []any
}

// planCalls succeed for all plans, and for nothing else.
func planCalls() []planCall {
	return []planCall{
		{"LoadsOf", func(j []int, m int, p []int) []any { a, ok := impl.LoadsOf(j, m, p); return []any{a, ok} }},
		{"EndOfPlan", func(j []int, m int, p []int) []any { a, ok := impl.EndOfPlan(j, m, p); return []any{a, ok} }},
		{"IdleOfPlan", func(j []int, m int, p []int) []any { a, ok := impl.IdleOfPlan(j, m, p); return []any{a, ok} }},
		{"IsSettledPlan", func(j []int, m int, p []int) []any { a, ok := impl.IsSettledPlan(j, m, p); return []any{a, ok} }},
		{"SettlePlan", func(j []int, m int, p []int) []any { a, n, ok := impl.SettlePlan(j, m, p); return []any{a, n, ok} }},
		{"SumOfEnds", func(j []int, m int, p []int) []any { a, ok := impl.SumOfEnds(j, m, p); return []any{a, ok} }},
	}
}

// bestMoveCalls fail for settled plans too.
func bestMoveCalls() []planCall {
	return []planCall{
		{"BestMove", func(j []int, m int, p []int) []any { a, b, ok := impl.BestMove(j, m, p); return []any{a, b, ok} }},
	}
}

// isPlanCalls succeed for all lists that are to be plans.
func isPlanCalls() []planCall {
	return []planCall{
		{"IsLoadPlan", func(j []int, m int, p []int) []any { a, ok := impl.IsLoadPlan(j, m, p); return []any{a, ok} }},
	}
}

// allPlanCalls call all functions that take jobs and machines; those that take no plan do without it.
func allPlanCalls() []planCall {
	calls := append(planCalls(), bestMoveCalls()...)
	calls = append(calls, isPlanCalls()...)
	for _, c := range jobsCalls() {
		calls = append(calls, planCall{c.name, func(j []int, m int, _ []int) []any { return c.call(j, m) }})
	}
	return calls
}

// onlyJobsCalls call the functions that take no machines, for some ends.
func onlyJobsCalls() []heapCall {
	calls := []heapCall{{"AreJobs", func(j []int) []any { return []any{impl.AreJobs(j)} }}}
	for _, end := range []int{-1, 0, 1, 6, 1000, 9000, 10000, 10001} {
		calls = append(calls, heapCall{fmt.Sprint("MachinesFor ", end), func(j []int) []any { a, ok := impl.MachinesFor(j, end); return []any{a, ok} }})
	}
	return calls
}

func wantJobs(t *testing.T, name string, jobs []int, machines int, want any) {
	t.Helper()
	for _, c := range jobsCalls() {
		if c.name == name {
			wantSame(t, fmt.Sprint(name, " of ", jobs, " on ", machines), c.call(jobs, machines), want, true)
			return
		}
	}
	panic("no function of jobs is called " + name)
}

func wantPlan(t *testing.T, name string, jobs []int, machines int, plan []int, want ...any) {
	t.Helper()
	for _, c := range allPlanCalls() {
		if c.name == name {
			wantSame(t, fmt.Sprint(name, " of ", jobs, " on ", machines, " by ", plan), c.call(jobs, machines, plan), want...)
			return
		}
	}
	panic("no function of plans is called " + name)
}

func wantAreJobs(t *testing.T, jobs []int, want bool) {
	t.Helper()
	if got := impl.AreJobs(jobs); got != want {
		t.Errorf("AreJobs of %v is %v", jobs, got)
	}
}

func wantMachines(t *testing.T, jobs []int, end int, want int) {
	t.Helper()
	machines, ok := impl.MachinesFor(jobs, end)
	wantSame(t, fmt.Sprint("MachinesFor ", jobs, " until ", end), []any{machines, ok}, want, true)
}

func wantNoMachines(t *testing.T, jobs []int, end int) {
	t.Helper()
	machines, ok := impl.MachinesFor(jobs, end)
	wantZero(t, fmt.Sprintf("MachinesFor %.60s until %d", fmt.Sprint(jobs), end), []any{machines, ok})
}

// wantMove tells of IsSettledPlan as well.
func wantMove(t *testing.T, jobs []int, machines int, plan []int, job int, machine int) {
	t.Helper()
	wantPlan(t, "BestMove", jobs, machines, plan, job, machine, true)
	wantPlan(t, "IsSettledPlan", jobs, machines, plan, false, true)
}

// wantSettled asks all functions of moves for a plan that none helps.
func wantSettled(t *testing.T, jobs []int, machines int, plan []int) {
	t.Helper()
	wantPlan(t, "BestMove", jobs, machines, plan, 0, 0, false)
	wantPlan(t, "IsSettledPlan", jobs, machines, plan, true, true)
	wantPlan(t, "SettlePlan", jobs, machines, plan, plan, 0, true)
}

// wantNoPlan asks all functions of plans for a list that is none for jobs and machines that there may be.
func wantNoPlan(t *testing.T, jobs []int, machines int, plan []int) {
	t.Helper()
	wantPlan(t, "IsLoadPlan", jobs, machines, plan, false, true)
	for _, c := range append(planCalls(), bestMoveCalls()...) {
		wantZero(t, fmt.Sprintf("%s of %v on %d by %.60s", c.name, jobs, machines, fmt.Sprint(plan)), c.call(jobs, machines, plan))
	}
}
