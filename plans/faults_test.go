package plans_test

import (
	"math"
	"slices"
	"testing"

	"helmsman/api"
	"helmsman/plans"
)

// function is an exported function, which tells whether its result is a zero value, and what it requires of a plan.
type function struct {
	name               string
	solution, examined bool
	run                func(task api.Task, plan []int) (zero bool, f api.Fault)
}

var functions = []function{
	{"Failure", false, false, func(task api.Task, plan []int) (bool, api.Fault) {
		n, f := plans.Failure(task, plan)
		return n == 0, f
	}},
	{"Reduce", true, false, func(task api.Task, plan []int) (bool, api.Fault) {
		l, f := plans.Reduce(task, plan)
		return l == nil, f
	}},
	{"Minimal", true, true, func(task api.Task, plan []int) (bool, api.Fault) {
		is, f := plans.Minimal(task, plan)
		return !is, f
	}},
}

// expect compares the fault of a function, and reports other results than zero values together with one.
func (f function) expect(t *testing.T, name string, task api.Task, plan []int, want api.Fault) {
	t.Helper()
	zero, got := f.run(task, plan)
	if got != want || got != fault(0, 0) && !zero {
		t.Errorf("%s, %s: got %v, want %v; the result is zero: %v", f.name, name, got, want, zero)
	}
}

// change is a way to change lifting and its solution, and what the functions then report that require what is said.
type change struct {
	name               string
	solution, examined bool
	apply              func(task *api.Task, plan *[]int)
	want               api.Fault
}

// changes are in the order in which the errors are checked. Any of them can be combined.
var changes = []change{
	{"too many facts", false, false, func(task *api.Task, _ *[]int) { task.Facts += 20 }, fault(api.ErrRange, -1)},
	{"initial state", false, false, func(task *api.Task, _ *[]int) { task.Init = ints(boxBottom, bottom) }, fault(api.ErrMalformed, -2)},
	{"goal", false, false, func(task *api.Task, _ *[]int) { task.Goal = ints(99) }, fault(api.ErrMalformed, -3)},
	{"too many operators", false, false, func(task *api.Task, _ *[]int) {
		task.Operators = append(task.Operators, make([]api.Operator, api.MaxOperators-4)...)
	}, fault(api.ErrTooMany, -1)},
	{"operator 1", false, false, func(task *api.Task, _ *[]int) { task.Operators[1].Del = ints(bottom, top) }, fault(api.ErrMalformed, 1)},
	{"operator 4", false, false, func(task *api.Task, _ *[]int) { task.Operators[4].Cost = -1 }, fault(api.ErrRange, 4)},
	{"too many steps", false, false, func(_ *api.Task, plan *[]int) { *plan = append(*plan, longest()...) }, fault(api.ErrTooMany, -5)},
	{"step", false, false, func(_ *api.Task, plan *[]int) { (*plan)[3] = 99 }, fault(api.ErrRange, -6)},
	{"no solution", true, false, func(_ *api.Task, plan *[]int) { (*plan)[0] = down }, fault(api.ErrState, -8)},
	{"too many steps to examine", true, true, func(_ *api.Task, plan *[]int) {
		*plan = append(*plan, slices.Repeat(ints(up, down), 5)...)
	}, fault(api.ErrTooLarge, -8)},
}

// expectFirst makes changes and expects the fault of the first one that concerns the function.
func (f function) expectFirst(t *testing.T, made ...change) {
	t.Helper()
	task, plan := lifting(), ints(enter, up, leave, down)
	name, want := "nothing", fault(0, 0)
	for i := len(made) - 1; i >= 0; i-- {
		c := made[i]
		c.apply(&task, &plan)
		name = c.name + ", " + name
		if (f.solution || !c.solution) && (f.examined || !c.examined) {
			want = c.want
		}
	}
	f.expect(t, name, task, plan, want)
}

// TestFaults covers the errors of R7.1 to R7.3 and their order: of any two errors, the one that is checked first is reported.
func TestFaults(t *testing.T) {
	for _, f := range functions {
		f.expectFirst(t)
		for i, first := range changes {
			f.expectFirst(t, first)
			for _, second := range changes[i+1:] {
				f.expectFirst(t, first, second)
			}
		}
	}
}

// TestSteps covers plans with steps that are not numbers of operators, in each position.
func TestSteps(t *testing.T) {
	for _, f := range functions {
		for _, step := range []int{math.MinInt, -1, 5, 6, 40, 64, math.MaxInt} {
			for i := range 5 {
				f.expect(t, "step that does not exist", lifting(), slices.Insert(ints(enter, up, leave, down), i, step), fault(api.ErrRange, -6))
			}
			f.expect(t, "step after one that is not applicable", lifting(), ints(leave, step), fault(api.ErrRange, -6))
			f.expect(t, "last of the most steps", lifting(), append(longest()[1:], step), fault(api.ErrRange, -6))
		}
		f.expect(t, "task without operators", api.Task{}, ints(0), fault(api.ErrRange, -6))
	}
}

// TestLengths covers the limits of the lengths of plans.
func TestLengths(t *testing.T) {
	task := api.Task{Operators: []api.Operator{{}}}
	for _, f := range functions {
		for n, want := range map[int]api.Fault{0: {}, 1: {}, 12: {}, 13: {}, api.MaxPlan: {}, api.MaxPlan + 1: fault(api.ErrTooMany, -5), 1000000: fault(api.ErrTooMany, -5)} {
			if f.examined && n > 12 && n <= api.MaxPlan {
				want = fault(api.ErrTooLarge, -8)
			}
			f.expect(t, "plan without effects", task, make([]int, n), want)
		}
		f.expect(t, "too many steps that do not exist", task, slices.Repeat(ints(9), api.MaxPlan+1), fault(api.ErrTooMany, -5))
	}
	thirteen := fault(api.ErrTooLarge, -8)
	functions[2].expect(t, "13 steps, all necessary", chain(13), upTo(13), thirteen)
	functions[2].expect(t, "13 steps, the last one unnecessary", chain(12), upTo(13), thirteen)
}

// TestPlansThatAreNoSolutions covers ErrState at -8 of Reduce and Minimal: the goal is not reached, or a step is not applicable.
func TestPlansThatAreNoSolutions(t *testing.T) {
	free := lifting()
	free.Goal = nil
	for _, c := range []struct {
		name string
		task api.Task
		plan []int
	}{
		{"empty plan", lifting(), nil},
		{"goal not reached", lifting(), ints(enter, up, leave)},
		{"goal reached only in between", lifting(), ints(enter, up, leave, down, up)},
		{"first step not applicable", lifting(), ints(down, enter, up, leave, down)},
		{"last step not applicable", lifting(), ints(enter, up, leave, down, leave)},
		{"no goal, but a step that is not applicable", free, ints(down)},
		{"13 steps without the last one", chain(14), upTo(13)},
		{"most steps without the first one", lifting(), longest()[1:]},
	} {
		for _, f := range functions[1:] {
			f.expect(t, c.name, c.task, c.plan, fault(api.ErrState, -8))
		}
	}
}
