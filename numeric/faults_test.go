package numeric_test

import (
	"fmt"
	"math"
	"slices"
	"testing"

	"helmsman/api"
	"helmsman/numeric"
)

// call is a list of arguments from which every function takes those that it has.
type call struct {
	task  api.NumericTask
	v     []int
	op    int
	plan  []int
	steps int
}

// valid returns arguments for which no function reports a fault.
func valid() call {
	return call{mill(), ints(0, 4, 1), sell, ints(buy, buy, grind, sell), 5}
}

// function is an exported function with what it depends on beside the task.
type function struct {
	name    string
	depends []string
	run     func(c call) (result any, f api.Fault)
}

var functions = []function{
	{"Validate", nil, func(c call) (any, api.Fault) {
		return nil, numeric.Validate(c.task)
	}},
	{"Apply", []string{"values", "operator"}, func(c call) (any, api.Fault) {
		l, f := numeric.Apply(c.task, c.v, c.op)
		return l, f
	}},
	{"Solves", []string{"plan"}, func(c call) (any, api.Fault) {
		is, f := numeric.Solves(c.task, c.plan)
		return is, f
	}},
	{"Bounds", []string{"steps"}, func(c call) (any, api.Fault) {
		l, f := numeric.Bounds(c.task, c.steps)
		return l, f
	}},
}

// callChange is a way to change valid arguments, and what the functions that depend on this report.
type callChange struct {
	name, kind string
	apply      func(c *call)
	want       api.Fault
}

// callChanges are in the order in which the errors are checked. Any of them can be combined.
func callChanges() []callChange {
	var l []callChange
	for _, c := range orderedChanges {
		l = append(l, callChange{c.name, "task", func(call *call) { c.apply(&call.task) }, c.want})
	}
	return append(l,
		callChange{"too few values", "values", func(c *call) { c.v = c.v[1:] }, fault(api.ErrMalformed, -4)},
		callChange{"last value", "values", func(c *call) { c.v[2] = api.MaxNumber + 1 }, fault(api.ErrMalformed, -4)},
		callChange{"operator", "operator", func(c *call) { c.op -= 9 }, fault(api.ErrRange, -6)},
		callChange{"too many steps", "plan", func(c *call) { c.plan = append(c.plan, make([]int, api.MaxPlan)...) }, fault(api.ErrTooMany, -5)},
		callChange{"step", "plan", func(c *call) { c.plan[3] = 99 }, fault(api.ErrRange, -6)},
		callChange{"number of steps", "steps", func(c *call) { c.steps -= 6 }, fault(api.ErrRange, -5)},
		callChange{"operator that is not applicable", "operator", func(c *call) { c.op += grind - sell }, fault(api.ErrState, grind)},
	)
}

// check compares the fault of a function with the one of the first change that it depends on.
func (f function) check(t *testing.T, changes ...callChange) {
	t.Helper()
	c := valid()
	var want api.Fault
	var names []string
	for i := len(changes) - 1; i >= 0; i-- {
		changes[i].apply(&c)
		names = append(names, changes[i].name)
		if changes[i].kind == "task" || slices.Contains(f.depends, changes[i].kind) {
			want = changes[i].want
		}
	}
	f.expect(t, fmt.Sprint(names), c, want)
}

// expect compares the fault of a function, and reports other results than zero values together with one.
func (f function) expect(t *testing.T, name string, c call, want api.Fault) {
	t.Helper()
	result, got := f.run(c)
	zero := slices.Contains([]string{"<nil>", "[]", "false"}, fmt.Sprint(result))
	if got != want || got != fault(0, 0) && !zero {
		t.Errorf("%s with %s: got %v, %v, want %v", f.name, name, result, got, want)
	}
}

// TestFaults covers the errors of R8.1 to R8.4 and their order: of any two errors of a function, the one that is checked first is reported, and the result is a zero value.
func TestFaults(t *testing.T) {
	changes := callChanges()
	for _, f := range functions {
		f.check(t)
		for i, first := range changes {
			f.check(t, first)
			for _, second := range changes[i+1:] {
				f.check(t, first, second)
			}
		}
	}
}

// TestLists covers values for Apply that are no list of values of the task.
func TestLists(t *testing.T) {
	apply, want := functions[1], fault(api.ErrMalformed, -4)
	for _, v := range [][]int{nil, ints(0), ints(0, 4), ints(0, 4, 1, 0), ints(0, 4, 1, math.MaxInt), make([]int, 1000000)} {
		apply.expect(t, fmt.Sprint(len(v), " values"), call{task: mill(), v: v, op: rest}, want)
	}
	for i := range 3 {
		for _, n := range outside(-api.MaxNumber, api.MaxNumber) {
			v := ints(0, 4, 1)
			v[i] = n
			apply.expect(t, fmt.Sprint(v), call{task: mill(), v: v, op: rest}, want)
			apply.expect(t, fmt.Sprint(v, " and no operator"), call{task: mill(), v: v, op: 99}, want)
		}
		for _, n := range ints(-api.MaxNumber, api.MaxNumber) {
			v := ints(0, 4, 1)
			v[i] = n
			apply.expect(t, fmt.Sprint(v), call{task: mill(), v: v, op: rest}, fault(0, 0))
		}
	}
}

// TestNumbersOfOperators covers operators and steps that do not exist.
func TestNumbersOfOperators(t *testing.T) {
	apply, solves, want := functions[1], functions[2], fault(api.ErrRange, -6)
	for _, op := range outside(0, 3) {
		apply.expect(t, fmt.Sprint("operator ", op), call{task: mill(), v: ints(0, 4, 1), op: op}, want)
		for _, plan := range [][]int{ints(op), ints(op, buy), ints(rest, op), ints(sell, op), append(slices.Repeat(ints(rest), api.MaxPlan-1), op)} {
			solves.expect(t, fmt.Sprint(plan), call{task: mill(), plan: plan}, want)
		}
	}
	idle := operators(ints(0))
	apply.expect(t, "a task without operators", call{task: idle, v: ints(0)}, want)
	solves.expect(t, "a task without operators", call{task: idle, plan: ints(0)}, want)
}

// TestNumbersOfSteps covers the limits of the lengths of plans and of the steps of Bounds.
func TestNumbersOfSteps(t *testing.T) {
	solves, bounds := functions[2], functions[3]
	for _, n := range ints(0, 1, api.MaxPlan-1, api.MaxPlan, api.MaxPlan+1, api.MaxPlan+2, 1000000) {
		wantPlan, wantSteps := fault(0, 0), fault(0, 0)
		if n > api.MaxPlan {
			wantPlan, wantSteps = fault(api.ErrTooMany, -5), fault(api.ErrRange, -5)
			solves.expect(t, fmt.Sprint(n, " steps that do not exist"), call{task: mill(), plan: slices.Repeat(ints(99), n)}, wantPlan)
		}
		solves.expect(t, fmt.Sprint(n, " steps"), call{task: mill(), plan: slices.Repeat(ints(rest), n)}, wantPlan)
		bounds.expect(t, fmt.Sprint(n, " steps"), call{task: mill(), steps: n}, wantSteps)
	}
	for _, n := range outside(0, api.MaxPlan) {
		bounds.expect(t, fmt.Sprint(n, " steps"), call{task: mill(), steps: n}, fault(api.ErrRange, -5))
		bounds.expect(t, fmt.Sprint(n, " steps without operators"), call{task: operators(ints(0)), steps: n}, fault(api.ErrRange, -5))
	}
}
