package multi_test

import (
	"fmt"
	"math"
	"slices"
	"testing"

	"helmsman/api"
	"helmsman/multi"
)

// call is a list of arguments from which every function takes those that it has.
type call struct {
	Task  api.MultiTask
	State []int
	Op    int
	Plan  []int
}

// valid returns arguments for which no function reports a fault.
func valid() call {
	return call{lift(), ints(0, shut, 0, 0, 5), raise, ride()}
}

// function is an exported function with what it depends on beside the task.
type function struct {
	name    string
	depends []string
	run     func(c call) (result any, f api.Fault)
}

var functions = []function{
	{"Validate", nil, func(c call) (any, api.Fault) {
		return nil, multi.Validate(c.Task)
	}},
	{"Applicable", []string{"state"}, func(c call) (any, api.Fault) {
		l, f := multi.Applicable(c.Task, c.State)
		return l, f
	}},
	{"Apply", []string{"state", "operator"}, func(c call) (any, api.Fault) {
		l, f := multi.Apply(c.Task, c.State, c.Op)
		return l, f
	}},
	{"Solves", []string{"plan"}, func(c call) (any, api.Fault) {
		is, f := multi.Solves(c.Task, c.Plan)
		return is, f
	}},
	{"Cost", []string{"plan"}, func(c call) (any, api.Fault) {
		n, f := multi.Cost(c.Task, c.Plan)
		return n, f
	}},
	{"Strips", []string{"number of facts"}, func(c call) (any, api.Fault) {
		task, f := multi.Strips(c.Task)
		return task, f
	}},
}

// callChange is a way to change valid arguments, and what the functions that depend on this report.
type callChange struct {
	name, kind string
	apply      func(c *call)
	want       api.Fault
}

// callChanges are in the order in which the errors are checked. Any of them can be combined.
func callChanges() []callChange {
	var l []callChange
	for _, c := range orderedChanges {
		l = append(l, callChange{c.name, "task", func(call *call) { c.apply(&call.Task) }, c.want})
	}
	return append(l,
		callChange{"too short state", "state", func(c *call) { c.State = c.State[1:] }, fault(api.ErrMalformed, -4)},
		callChange{"last value", "state", func(c *call) { c.State[len(c.State)-1] = 6 }, fault(api.ErrMalformed, -4)},
		callChange{"too many steps", "plan", func(c *call) { c.Plan = append(c.Plan, make([]int, api.MaxPlan)...) }, fault(api.ErrTooMany, -5)},
		callChange{"step", "plan", func(c *call) { c.Plan[3] = 99 }, fault(api.ErrRange, -6)},
		callChange{"operator", "operator", func(c *call) { c.Op -= 9 }, fault(api.ErrRange, -6)},
		callChange{"operator that is not applicable", "operator", func(c *call) { c.Op += leave - raise }, fault(api.ErrState, leave)},
		callChange{"too many facts", "number of facts", func(c *call) { c.Task.Sizes = ints(6, 6, 6, 6, 6) }, fault(api.ErrTooLarge, -8)},
	)
}

// check compares the fault of a function with the one of the first change that it depends on.
func (f function) check(t *testing.T, changes ...callChange) {
	t.Helper()
	c := valid()
	var want api.Fault
	var names []string
	for i := len(changes) - 1; i >= 0; i-- {
		changes[i].apply(&c)
		names = append(names, changes[i].name)
		if changes[i].kind == "task" || slices.Contains(f.depends, changes[i].kind) {
			want = changes[i].want
		}
	}
	f.expect(t, fmt.Sprint(names), c, want)
}

// expect compares the fault of a function, and reports other results than zero values together with one.
func (f function) expect(t *testing.T, name string, c call, want api.Fault) {
	t.Helper()
	result, got := f.run(c)
	zero := slices.Contains([]string{"<nil>", "[]", "false", "0", "{0 [] [] []}"}, fmt.Sprint(result))
	if got != want || got != fault(0, 0) && !zero {
		t.Errorf("%s with %s: got %v, %v, want %v", f.name, name, result, got, want)
	}
}

// TestFaults covers the errors of R9.1 to R9.6 and their order: of any two errors of a function, the one that is checked first is reported, and the result is a zero value.
func TestFaults(t *testing.T) {
	changes := callChanges()
	for _, f := range functions {
		f.check(t)
		for i, first := range changes {
			f.check(t, first)
			for _, second := range changes[i+1:] {
				f.check(t, first, second)
			}
		}
	}
}

// TestInvalidTasks covers Z9 for each function: it reports the errors of Validate, whatever the other arguments are.
func TestInvalidTasks(t *testing.T) {
	for _, change := range slices.Concat(orderedChanges, furtherChanges) {
		for _, f := range functions {
			c := valid()
			change.apply(&c.Task)
			f.expect(t, change.name, c, change.want)
			c.State, c.Op, c.Plan = ints(-1), math.MinInt, repeat(-1, api.MaxPlan+1)
			f.expect(t, change.name+" and all other arguments", c, change.want)
		}
	}
}

// TestStates covers lists that are no states of the task, and states at the edges.
func TestStates(t *testing.T) {
	applicable, apply, want := functions[1], functions[2], fault(api.ErrMalformed, -4)
	check := func(s []int, want api.Fault) {
		t.Helper()
		applicable.expect(t, fmt.Sprint("the state ", s[:min(len(s), 9)]), call{Task: lift(), State: s}, want)
		apply.expect(t, fmt.Sprint("the state ", s[:min(len(s), 9)]), call{Task: lift(), State: s, Op: pause}, want)
		if want != fault(0, 0) {
			apply.expect(t, "no operator and no state", call{Task: lift(), State: s, Op: 7}, want)
		}
	}
	for _, s := range [][]int{nil, ints(0), ints(0, 0, 0, 0), ints(0, 0, 0, 0, 0, 0), ints(9), make([]int, 1000000)} {
		check(s, want)
	}
	for v, size := range lift().Sizes {
		s := ints(1, 1, 1, 0, 1)
		for s[v] = range size {
			check(s, fault(0, 0))
		}
		for _, s[v] = range outside(0, size-1) {
			check(s, want)
		}
	}
}

// TestNumbersOfOperators covers operators and steps that do not exist.
func TestNumbersOfOperators(t *testing.T) {
	apply, want := functions[2], fault(api.ErrRange, -6)
	for _, op := range outside(0, 6) {
		apply.expect(t, fmt.Sprint("operator ", op), call{Task: lift(), State: lift().Init, Op: op}, want)
		for _, f := range functions[3:5] {
			for _, plan := range [][]int{ints(op), ints(op, unlock), ints(pause, op), ints(leave, op), append(repeat(pause, api.MaxPlan-1), op)} {
				f.expect(t, fmt.Sprint(plan), call{Task: lift(), Plan: plan}, want)
			}
		}
	}
	apply.expect(t, "a task without operators", call{Task: idle(0), State: ints(0)}, want)
	for _, f := range functions[3:5] {
		f.expect(t, "a task without operators", call{Task: idle(0), Plan: ints(0)}, want)
	}
}

// TestLengthsOfPlans covers plans with as many steps as permitted, and with more.
func TestLengthsOfPlans(t *testing.T) {
	for _, f := range functions[3:5] {
		for _, n := range ints(0, 1, api.MaxPlan-1, api.MaxPlan) {
			f.expect(t, fmt.Sprint(n, " steps"), call{Task: lift(), Plan: repeat(pause, n)}, fault(0, 0))
		}
		for _, n := range ints(api.MaxPlan+1, api.MaxPlan+2, 1000000) {
			f.expect(t, fmt.Sprint(n, " steps"), call{Task: lift(), Plan: repeat(pause, n)}, fault(api.ErrTooMany, -5))
			f.expect(t, fmt.Sprint(n, " steps that do not exist"), call{Task: lift(), Plan: repeat(99, n)}, fault(api.ErrTooMany, -5))
		}
	}
}
