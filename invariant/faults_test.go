package invariant_test

import (
	"fmt"
	"math"
	"slices"
	"testing"

	"helmsman/api"
	"helmsman/invariant"
)

// function is an exported function, which tells whether its result is a zero value, and what it depends on beside the task.
type function struct {
	name, depends string
	run           func(task api.Task, group []int) (zero bool, f api.Fault)
}

var functions = []function{
	{"Inductive", "group", func(task api.Task, group []int) (bool, api.Fault) {
		is, f := invariant.Inductive(task, group)
		return !is, f
	}},
	{"Find", "number of facts", func(task api.Task, _ []int) (bool, api.Fault) {
		l, f := invariant.Find(task)
		return l == nil, f
	}},
}

// expect compares the fault of a function, and reports another result than a zero value together with one.
func (f function) expect(t *testing.T, name string, task api.Task, group []int, want api.Fault) {
	t.Helper()
	zero, got := f.run(task, group)
	if got != want || got != fault(0, 0) && !zero {
		t.Errorf("%s, %s: got %v, want %v; the result is zero: %v", f.name, name, got, want, zero)
	}
}

// change is a way to change shipping and one of its groups, and what the functions then report that depend on this.
type change struct {
	name, kind string
	apply      func(task *api.Task, group *[]int)
	want       api.Fault
}

// operator returns a change of one operator.
func operator(name string, i int, apply func(o *api.Operator), code int) change {
	return change{name, "task", func(task *api.Task, _ *[]int) { apply(&task.Operators[i]) }, fault(code, i)}
}

// changes are in the order in which the errors are checked. Any of them can be combined.
var changes = []change{
	{"too many facts for a task", "task", func(task *api.Task, _ *[]int) { task.Facts += 20 }, fault(api.ErrRange, -1)},
	{"initial state", "task", func(task *api.Task, _ *[]int) { task.Init = ints(crateFirst, first) }, fault(api.ErrMalformed, -2)},
	{"goal", "task", func(task *api.Task, _ *[]int) { task.Goal = ints(99) }, fault(api.ErrMalformed, -3)},
	{"too many operators", "task", func(task *api.Task, _ *[]int) {
		task.Operators = append(task.Operators, make([]api.Operator, api.MaxOperators)...)
	}, fault(api.ErrTooMany, -1)},
	operator("precondition", 0, func(o *api.Operator) { o.Pre = ints(-1) }, api.ErrMalformed),
	operator("cost", 1, func(o *api.Operator) { o.Cost = api.MaxCost + 1 }, api.ErrRange),
	operator("fact added and deleted", 3, func(o *api.Operator) { o.Del = o.Add }, api.ErrMalformed),
	operator("added fact", 4, func(o *api.Operator) { o.Add = ints(0, 0) }, api.ErrMalformed),
	operator("deleted fact and cost", 5, func(o *api.Operator) { o.Del, o.Cost = ints(99), -1 }, api.ErrMalformed),
	{"group", "group", func(_ *api.Task, group *[]int) { *group = append(*group, 0) }, fault(api.ErrMalformed, -8)},
	{"too many facts for Find", "number of facts", func(task *api.Task, _ *[]int) { task.Facts += 5 }, fault(api.ErrTooLarge, -8)},
}

// expectFirst makes changes and expects the fault of the first one that concerns the function.
func (f function) expectFirst(t *testing.T, made ...change) {
	t.Helper()
	task, group := shipping(), ints(first, sea, second)
	name, want := "nothing", fault(0, 0)
	for i := len(made) - 1; i >= 0; i-- {
		c := made[i]
		c.apply(&task, &group)
		name = c.name + ", " + name
		if c.kind == "task" || c.kind == f.depends {
			want = c.want
		}
	}
	f.expect(t, name, task, group, want)
}

// TestFaults covers the errors of R10.1 and R10.2 and their order: of any two errors, the one that is checked first is reported, and the result is a zero value.
func TestFaults(t *testing.T) {
	for _, f := range functions {
		f.expectFirst(t)
		for i, a := range changes {
			f.expectFirst(t, a)
			for k, b := range changes[i+1:] {
				f.expectFirst(t, a, b)
				for _, c := range changes[i+1+k+1:] {
					f.expectFirst(t, a, b, c)
				}
			}
		}
	}
}

// TestGroups covers ErrMalformed at -8 of R10.1, and groups at the edges.
func TestGroups(t *testing.T) {
	inductive, malformed := functions[0], fault(api.ErrMalformed, -8)
	for _, group := range [][]int{
		ints(-1), ints(6), ints(7), ints(24), ints(63), ints(64), ints(math.MinInt), ints(math.MaxInt),
		ints(-1, 0), ints(0, -1), ints(5, 6), ints(6, 5), ints(0, 64), ints(64, 65),
		ints(0, 0), ints(5, 5), ints(1, 0), ints(5, 0), ints(0, 2, 1), ints(0, 1, 1), ints(0, 1, 2, 3, 4, 5, 6), ints(5, 4, 3, 2, 1, 0),
		ints(math.MinInt, 0), ints(0, math.MaxInt), ints(0, math.MaxInt, math.MinInt), make([]int, 1000000), upTo(1000000),
	} {
		name := fmt.Sprint("group ", group[:min(len(group), 9)])
		inductive.expect(t, name, shipping(), group, malformed)
		inductive.expect(t, name+" of a task without operators", with(6), group, malformed)
		inductive.expect(t, name+", two facts of which are true initially", from(with(6), upTo(6)...), group, malformed)
		inductive.expect(t, name+" of the zero task", api.Task{}, group, malformed)
	}
	for _, group := range [][]int{nil, ints(), ints(0), ints(5), ints(0, 5), ints(4, 5), upTo(6)} {
		inductive.expect(t, fmt.Sprint("group ", group), shipping(), group, fault(0, 0))
	}
	inductive.expect(t, "fact of the zero task", api.Task{}, ints(0), malformed)
	inductive.expect(t, "most facts", with(api.MaxFacts), upTo(api.MaxFacts), fault(0, 0))
	inductive.expect(t, "one fact too many", with(api.MaxFacts), upTo(api.MaxFacts+1), malformed)
}

// TestNumbersOfFacts covers ErrTooLarge at -8 of R10.2, and that Inductive is for all tasks.
func TestNumbersOfFacts(t *testing.T) {
	for n := range 30 {
		want := [2]api.Fault{}
		switch {
		case n > api.MaxFacts:
			want = [2]api.Fault{fault(api.ErrRange, -1), fault(api.ErrRange, -1)}
		case n > 10:
			want[1] = fault(api.ErrTooLarge, -8)
		}
		for i, f := range functions {
			f.expect(t, fmt.Sprint(n, " facts"), with(n), nil, want[i])
			f.expect(t, fmt.Sprint(n, " facts and operators"), with(n, make([]api.Operator, api.MaxOperators)...), nil, want[i])
		}
	}
	for _, n := range ints(-1, -10, math.MinInt, math.MaxInt, 64, 1<<32) {
		for _, f := range functions {
			f.expect(t, fmt.Sprint(n, " facts"), with(n), ints(0), fault(api.ErrRange, -1))
		}
	}
}

// TestNumbersOfOperators covers tasks with as many operators as permitted, and with more.
func TestNumbersOfOperators(t *testing.T) {
	for n, want := range map[int]api.Fault{0: {}, api.MaxOperators: {}, api.MaxOperators + 1: fault(api.ErrTooMany, -1), 100000: fault(api.ErrTooMany, -1)} {
		for _, f := range functions {
			f.expect(t, fmt.Sprint(n, " operators"), with(2, slices.Repeat([]api.Operator{move(0, 1)}, n)...), ints(0, 1), want)
		}
	}
}
