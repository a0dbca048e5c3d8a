package strips_test

import (
	"fmt"
	"math"
	"slices"
	"testing"

	"helmsman/api"
	"helmsman/strips"
)

// call is a list of arguments from which every function takes those that it has.
type call struct {
	Task  api.Task
	State []int
	Plan  []int
	Op    int
}

// valid returns arguments for which no function reports a fault.
func valid() call {
	return call{delivery(), []int{rome, sent}, []int{load, drive, unload, back}, load}
}

// function is an exported function with what it depends on: the task, and a state, a plan or an operator.
type function struct {
	name    string
	depends []string
	run     func(c call) (results []any, f api.Fault)
}

var functions = []function{
	{"Validate", []string{"task"}, func(c call) ([]any, api.Fault) {
		return nil, strips.Validate(c.Task)
	}},
	{"Applicable", []string{"task", "state"}, func(c call) ([]any, api.Fault) {
		l, f := strips.Applicable(c.Task, c.State)
		return []any{l}, f
	}},
	{"Apply", []string{"task", "state", "operator", "use of the operator"}, func(c call) ([]any, api.Fault) {
		l, f := strips.Apply(c.Task, c.State, c.Op)
		return []any{l}, f
	}},
	{"Play", []string{"task", "state", "plan", "use of the plan"}, func(c call) ([]any, api.Fault) {
		l, f := strips.Play(c.Task, c.State, c.Plan)
		return []any{l}, f
	}},
	{"Solves", []string{"task", "plan"}, func(c call) ([]any, api.Fault) {
		is, f := strips.Solves(c.Task, c.Plan)
		return []any{is}, f
	}},
	{"Cost", []string{"task", "plan"}, func(c call) ([]any, api.Fault) {
		n, f := strips.Cost(c.Task, c.Plan)
		return []any{n}, f
	}},
	{"Regress", []string{"task", "state", "operator"}, func(c call) ([]any, api.Fault) {
		l, ok, f := strips.Regress(c.Task, c.State, c.Op)
		return []any{l, ok}, f
	}},
}

// callChange is a way to change valid arguments, and what the functions that depend on this report.
type callChange struct {
	name, kind string
	apply      func(c *call)
	want       api.Fault
}

// callChanges are in the order in which the errors are checked. Any of them can be combined.
func callChanges() []callChange {
	var l []callChange
	for _, c := range orderedChanges {
		l = append(l, callChange{c.name, "task", func(call *call) { c.apply(&call.Task) }, c.want})
	}
	return append(l,
		callChange{"state", "state", func(c *call) { c.State = append(c.State, sent) }, fault(api.ErrMalformed, -4)},
		callChange{"too many steps", "plan", func(c *call) { c.Plan = append(c.Plan, repeat(drive, api.MaxPlan)...) }, fault(api.ErrTooMany, -5)},
		callChange{"last step", "plan", func(c *call) { c.Plan = append(c.Plan, 99) }, fault(api.ErrRange, -6)},
		callChange{"operator", "operator", func(c *call) { c.Op -= 9 }, fault(api.ErrRange, -6)},
		callChange{"operator that is not applicable", "use of the operator", func(c *call) { c.Op += unload - load }, fault(api.ErrState, unload)},
		callChange{"step 2 that is not applicable", "use of the plan", func(c *call) { c.Plan[2] = load }, fault(api.ErrState, 2)},
		callChange{"step 3 that is not applicable", "use of the plan", func(c *call) { c.Plan[3] = drive }, fault(api.ErrState, 3)},
	)
}

// check compares the fault of a function with the one of the first change that it depends on.
func (f function) check(t *testing.T, changes ...callChange) {
	t.Helper()
	c := valid()
	var want api.Fault
	var names []string
	for i := len(changes) - 1; i >= 0; i-- {
		changes[i].apply(&c)
		names = append(names, changes[i].name)
		if slices.Contains(f.depends, changes[i].kind) {
			want = changes[i].want
		}
	}
	results, got := f.run(c)
	if got != want {
		t.Errorf("%s with %v: got %v, want %v", f.name, names, got, want)
	}
	for _, r := range results {
		if zero := slices.Contains([]string{"[]", "false", "0"}, fmt.Sprint(r)); got != fault(0, 0) && !zero {
			t.Errorf("%s with %v: the results are %v", f.name, names, results)
		}
	}
}

// TestFaults covers the errors of R5.1 to R5.7 and their order: of any two errors of a function, the one that is checked first is reported, and all other results are zero values.
func TestFaults(t *testing.T) {
	changes := callChanges()
	for _, f := range functions {
		f.check(t)
		for i, first := range changes {
			f.check(t, first)
			for _, second := range changes[i+1:] {
				f.check(t, first, second)
			}
		}
	}
}

// TestNumbersOfOperators covers steps and operators that do not exist.
func TestNumbersOfOperators(t *testing.T) {
	for _, op := range []int{math.MinInt, -1, 4, 5, 40, 64, math.MaxInt} {
		for _, f := range functions {
			for _, plan := range [][]int{{op}, {load, op}, {op, load}, {load, unload, op}, append(repeat(op, api.MaxPlan-1), load)} {
				c := call{delivery(), []int{rome, sent}, plan, op}
				want := fault(0, 0)
				if slices.Contains(f.depends, "plan") || slices.Contains(f.depends, "operator") {
					want = fault(api.ErrRange, -6)
				}
				if _, got := f.run(c); got != want {
					t.Errorf("%s with operator %d and plan %v: got %v, want %v", f.name, op, plan, got, want)
				}
			}
		}
	}
	for _, f := range functions[2:] {
		want := fault(api.ErrRange, -6)
		if _, got := f.run(call{Plan: []int{0}}); got != want {
			t.Errorf("%s of a task without operators: got %v, want %v", f.name, got, want)
		}
	}
}

// TestLengthOfPlans covers plans with as many steps as permitted, and with more.
func TestLengthOfPlans(t *testing.T) {
	task := api.Task{Operators: []api.Operator{{}, {Cost: api.MaxCost}}}
	for _, f := range functions {
		if !slices.Contains(f.depends, "plan") {
			continue
		}
		for _, op := range []int{0, 99, -1} {
			if _, got := f.run(call{Task: task, Plan: repeat(op, api.MaxPlan+1)}); got != fault(api.ErrTooMany, -5) {
				t.Errorf("%s: %v for one step too many", f.name, got)
			}
			if _, got := f.run(call{Task: task, Plan: repeat(op, 1000000)}); got != fault(api.ErrTooMany, -5) {
				t.Errorf("%s: %v for far too many steps", f.name, got)
			}
		}
		if _, got := f.run(call{Task: task, Plan: repeat(1, api.MaxPlan)}); got != fault(0, 0) {
			t.Errorf("%s: %v for as many steps as permitted", f.name, got)
		}
	}
}

// TestPlanFault covers the errors of Z9 for plans of tasks of any kind.
func TestPlanFault(t *testing.T) {
	for _, c := range []struct {
		name      string
		operators int
		plan      []int
		want      api.Fault
	}{
		{"empty plan", 3, nil, fault(0, 0)},
		{"empty plan without operators", 0, nil, fault(0, 0)},
		{"all operators", 3, ints(2, 0, 1, 1), fault(0, 0)},
		{"step without operators", 0, ints(0), fault(api.ErrRange, -6)},
		{"step of a negative number of operators", -1, ints(-1), fault(api.ErrRange, -6)},
		{"first step too large", 3, ints(3, 0), fault(api.ErrRange, -6)},
		{"last step negative", 3, ints(0, -1), fault(api.ErrRange, -6)},
		{"as many steps as permitted", 3, repeat(2, api.MaxPlan), fault(0, 0)},
		{"the last one of them too large", 3, append(repeat(2, api.MaxPlan-1), 3), fault(api.ErrRange, -6)},
		{"one step too many", 3, repeat(2, api.MaxPlan+1), fault(api.ErrTooMany, -5)},
		{"one step too many, and none exists", 0, repeat(2, api.MaxPlan+1), fault(api.ErrTooMany, -5)},
	} {
		if got := strips.PlanFault(c.operators, c.plan); got != c.want {
			t.Errorf("%s: got %v, want %v", c.name, got, c.want)
		}
	}
}
