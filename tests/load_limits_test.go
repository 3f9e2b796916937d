package tests

import (
	"fmt"
	"testing"

	"loop.example/g01333/impl"
)

// notJobs are no jobs: because of how many there are, or because of a time.
func notJobs() [][]int {
	lists := [][]int{nil, {}, {0}, {-1}, {1001}, {1002}, {-2}, {-1000}, {0, 0}, {0, 1}, {1, 0}, {1, -1}, {-1, 1}, {1001, 1}, {1, 1001}, {1000, 1001}, {2, -1, 3}, {2, 0, 3}, {2, 1001, 3}, {3, -1, -1},
		repeated(0, 9), repeated(-1, 9), repeated(1001, 9), append(repeated(1, 8), 0), append(repeated(1, 8), -1), append(repeated(1000, 8), 1001), append([]int{0}, repeated(1, 8)...),
		repeated(1, 10), repeated(1000, 10), repeated(0, 10), repeated(1, 11), repeated(5, 20), make([]int, 100000), repeated(1, 100000)}
	for _, n := range wildNumbers {
		lists = append(lists, []int{n}, []int{n, 1}, []int{1, n}, []int{n, n}, []int{n, -n}, []int{1, n, 1}, repeated(n, 9), append(repeated(1, 8), n), repeated(n, 10))
	}
	return lists
}

func TestInvalidJobs(t *testing.T) {
	for _, jobs := range notJobs() {
		what := fmt.Sprintf(" of %.60s", fmt.Sprint(jobs))
		for _, c := range onlyJobsCalls() {
			wantZero(t, c.name+what, c.call(jobs))
		}
		for _, n := range wildNumbers {
			wantNoMachines(t, jobs, n)
		}
		for _, c := range allPlanCalls() {
			for _, machines := range append([]int{-1, 0, 1, 2, 4, 5}, wildNumbers...) {
				wantZero(t, fmt.Sprint(c.name, " on ", machines, what), c.call(jobs, machines, repeated(0, len(jobs))))
				wantZero(t, fmt.Sprint(c.name, " on ", machines, " without a plan", what), c.call(jobs, machines, nil))
			}
		}
	}
}

// edgeJobs are jobs by the least: one and nine, the least and greatest times.
func edgeJobs() [][]int {
	return [][]int{{1}, {1000}, {2}, {999}, {1, 1}, {1000, 1000}, {1, 1000}, {1000, 1}, {2, 3, 4, 6}, repeated(1, 9), repeated(1000, 9), append(repeated(1, 8), 1000), append(repeated(1000, 8), 1),
		{1, 2, 3, 4, 5, 6, 7, 8, 9}}
}

func TestJobsByTheLeast(t *testing.T) {
	for _, jobs := range edgeJobs() {
		wantAreJobs(t, jobs, true)
		for machines := 1; machines <= 4; machines++ {
			for _, c := range jobsCalls() {
				if results := c.call(jobs, machines); results[1] != true {
					t.Errorf("%s of %v on %d: %v", c.name, jobs, machines, results)
				}
			}
			for machine := range machines {
				plan := repeated(machine, len(jobs))
				for _, c := range append(planCalls(), isPlanCalls()...) {
					if results := c.call(jobs, machines, plan); results[len(results)-1] != true {
						t.Errorf("%s of %v on %d by %v: %v", c.name, jobs, machines, plan, results)
					}
				}
			}
		}
	}
	for time := -5; time < 1100; time++ {
		wantAreJobs(t, []int{time}, time >= 1 && time <= 1000)
		wantAreJobs(t, []int{1, 2, 3, 4, 5, 6, 7, 8, time}, time >= 1 && time <= 1000)
	}
	for size := range 15 {
		wantAreJobs(t, repeated(1, size), size >= 1 && size <= 9)
	}
}

func TestNumbersOfMachines(t *testing.T) {
	for _, jobs := range edgeJobs() {
		for _, machines := range append([]int{0, -1, -2, -4, 5, 6, 9, 10, 1000}, wildNumbers...) {
			for _, plan := range [][]int{nil, repeated(0, len(jobs)), repeated(1, len(jobs)), repeated(machines, len(jobs)), repeated(machines-1, len(jobs)), repeated(0, len(jobs)+1)} {
				for _, c := range allPlanCalls() {
					wantZero(t, fmt.Sprint(c.name, " of ", jobs, " on ", machines, " by ", plan), c.call(jobs, machines, plan))
				}
			}
		}
	}
}

func TestListsThatAreNoPlans(t *testing.T) {
	for _, jobs := range edgeJobs() {
		for machines := 1; machines <= 4; machines++ {
			good := repeated(machines-1, len(jobs))
			wantPlan(t, "IsLoadPlan", jobs, machines, good, true, true)
			for _, plan := range [][]int{nil, {}, good[1:], append(repeated(0, len(jobs)), 0), append(repeated(0, len(jobs)), -1), repeated(0, 2*len(jobs)+1), make([]int, 1000)} {
				wantNoPlan(t, jobs, machines, plan)
			}
			for _, bad := range append([]int{-1, -2, -machines, machines, machines + 1, 1000}, wildNumbers...) {
				for job := range jobs {
					plan := repeated(0, len(jobs))
					plan[job] = bad
					wantNoPlan(t, jobs, machines, plan)
				}
				wantNoPlan(t, jobs, machines, repeated(bad, len(jobs)))
			}
		}
	}
}

func TestEndsForMachines(t *testing.T) {
	for _, jobs := range edgeJobs() {
		longest := 0
		for _, time := range jobs {
			longest = max(longest, time)
		}
		for _, end := range append([]int{0, -1, -2, -1000, 10001, 10002, 20000, longest - 1}, wildNumbers...) {
			wantNoMachines(t, jobs, end)
		}
		for _, end := range []int{longest, longest + 1, 1000, 9000, 9999, 10000} {
			if machines, ok := impl.MachinesFor(jobs, end); !ok || machines < 1 || machines > len(jobs) {
				t.Errorf("MachinesFor %v until %d: %d, %v", jobs, end, machines, ok)
			}
		}
		wantMachines(t, jobs, totalOf(jobs), 1)
		wantMachines(t, jobs, 10000, 1)
	}
}
