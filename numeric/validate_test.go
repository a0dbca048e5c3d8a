package numeric_test

import (
	"math"
	"slices"
	"testing"

	"helmsman/api"
	"helmsman/numeric"
)

// change is a way to change the task of a mill, and what Validate then reports.
type change struct {
	name  string
	apply func(t *api.NumericTask)
	want  api.Fault
}

// validChanges lead to valid tasks: the edges of what is permitted.
var validChanges = []change{
	{"nothing", func(*api.NumericTask) {}, fault(0, 0)},
	{"one variable", func(t *api.NumericTask) { *t = api.NumericTask{Init: ints(0)} }, fault(0, 0)},
	{"empty lists", func(t *api.NumericTask) {
		*t = api.NumericTask{Init: ints(0), Goal: compare(), Operators: []api.NumericOperator{{Pre: compare(), Changes: []api.Change{}}}}
	}, fault(0, 0)},
	{"as many variables as permitted", func(t *api.NumericTask) { *t = api.NumericTask{Init: make([]int, api.MaxVariables)} }, fault(0, 0)},
	{"values at the limits", func(t *api.NumericTask) { t.Init = ints(api.MaxNumber, -api.MaxNumber, 0) }, fault(0, 0)},
	{"no goal", func(t *api.NumericTask) { t.Goal = nil }, fault(0, 0)},
	{"no operators", func(t *api.NumericTask) { t.Operators = nil }, fault(0, 0)},
	{"as many operators as permitted", func(t *api.NumericTask) { t.Operators = make([]api.NumericOperator, api.MaxOperators) }, fault(0, 0)},
	{"the same operators again", func(t *api.NumericTask) { t.Operators = slices.Repeat(t.Operators, 10) }, fault(0, 0)},
	{"least cost", func(t *api.NumericTask) { t.Operators[buy].Cost = 0 }, fault(0, 0)},
	{"greatest cost", func(t *api.NumericTask) { t.Operators[buy].Cost = api.MaxCost }, fault(0, 0)},
	{"changes of all variables", func(t *api.NumericTask) {
		t.Operators[rest].Changes = []api.Change{set(0, 0, 0, 0, 0), set(1, 0, 0, 0, 0), set(2, 0, 0, 0, 0)}
	}, fault(0, 0)},
	{"change of the last variable only", func(t *api.NumericTask) { t.Operators[rest].Changes = []api.Change{set(2, 0, 0, 0, 0)} }, fault(0, 0)},
	{"numbers of a change at the limits", func(t *api.NumericTask) {
		t.Operators[rest].Changes = []api.Change{set(0, 1000, 1000, -1000, 1000), set(2, -1000, -1000, 1000, -1000)}
	}, fault(0, 0)},
	{"goal that is not true and cannot be", func(t *api.NumericTask) { t.Goal = compare(equal(1, 0, 0, 0)) }, fault(0, 0)},
	{"change that leads beyond the limits", func(t *api.NumericTask) {
		t.Init = ints(api.MaxNumber, 0, 0)
		t.Operators[rest].Changes = []api.Change{set(0, 0, 1000, 0, 0)}
	}, fault(0, 0)},
}

// orderedChanges lead to errors, in the order in which R8.1 checks them. Any of them can be combined.
var orderedChanges = []change{
	{"too many variables", func(t *api.NumericTask) { t.Init = append(t.Init, make([]int, 6)...) }, fault(api.ErrTooMany, -1)},
	{"initial value", func(t *api.NumericTask) { t.Init[1] = api.MaxNumber + 1 }, fault(api.ErrMalformed, -2)},
	{"too many comparisons of the goal", func(t *api.NumericTask) { t.Goal = append(t.Goal, make([]api.Comparison, 7)...) }, fault(api.ErrTooMany, -3)},
	{"kind of the first comparison of the goal", func(t *api.NumericTask) { t.Goal[0].Kind = 3 }, fault(api.ErrKind, -3)},
	{"bound of the first comparison of the goal", func(t *api.NumericTask) { t.Goal[0].Bound = -1 - api.MaxNumber }, fault(api.ErrRange, -3)},
	{"kind of the second comparison of the goal", func(t *api.NumericTask) { t.Goal[1].Kind = 0 }, fault(api.ErrKind, -3)},
	{"factors of the second comparison of the goal", func(t *api.NumericTask) { t.Goal[1].Factors = ints(1, 2) }, fault(api.ErrRange, -3)},
	{"too many operators", func(t *api.NumericTask) {
		t.Operators = append(t.Operators, make([]api.NumericOperator, api.MaxOperators-3)...)
	}, fault(api.ErrTooMany, -1)},
	{"kind of operator 0", func(t *api.NumericTask) { t.Operators[0].Pre[0].Kind = -1 }, fault(api.ErrKind, 0)},
	{"variable of the first change of operator 0", func(t *api.NumericTask) { t.Operators[0].Changes[0].Var = -1 }, fault(api.ErrRange, 0)},
	{"order of the changes of operator 0", func(t *api.NumericTask) { t.Operators[0].Changes[1].Var = 0 }, fault(api.ErrMalformed, 0)},
	{"cost of operator 0", func(t *api.NumericTask) { t.Operators[0].Cost = -1 }, fault(api.ErrRange, 0)},
	{"bound of operator 1", func(t *api.NumericTask) { t.Operators[1].Pre[0].Bound = 1 + api.MaxNumber }, fault(api.ErrRange, 1)},
	{"kind of operator 1", func(t *api.NumericTask) { t.Operators[1].Pre[1].Kind = 99 }, fault(api.ErrKind, 1)},
	{"constant of the last change of operator 1", func(t *api.NumericTask) { t.Operators[1].Changes[1].Constant = 1001 }, fault(api.ErrRange, 1)},
	{"too many comparisons of operator 2", func(t *api.NumericTask) { t.Operators[2].Pre = make([]api.Comparison, 9) }, fault(api.ErrTooMany, 2)},
	{"factors of the last change of operator 2", func(t *api.NumericTask) { t.Operators[2].Changes[1].Factors = ints(0, 0, -1001) }, fault(api.ErrRange, 2)},
	{"order of the changes of operator 2", func(t *api.NumericTask) { t.Operators[2].Changes[0].Var = 2 }, fault(api.ErrMalformed, 2)},
	{"cost of operator 3", func(t *api.NumericTask) { t.Operators[3].Cost = api.MaxCost + 1 }, fault(api.ErrRange, 3)},
}

// furtherChanges lead to errors at the edges.
var furtherChanges = []change{
	{"zero task", func(t *api.NumericTask) { *t = api.NumericTask{} }, fault(api.ErrTooMany, -1)},
	{"no variables, but all else", func(t *api.NumericTask) { t.Init = ints() }, fault(api.ErrTooMany, -1)},
	{"one variable too many", func(t *api.NumericTask) { *t = api.NumericTask{Init: make([]int, api.MaxVariables+1)} }, fault(api.ErrTooMany, -1)},
	{"far too many variables", func(t *api.NumericTask) { t.Init = slices.Repeat(ints(math.MaxInt), 1000000) }, fault(api.ErrTooMany, -1)},
	{"one variable fewer than factors", func(t *api.NumericTask) { t.Init = ints(0, 0) }, fault(api.ErrRange, -3)},
	{"one variable more than factors", func(t *api.NumericTask) { t.Init = make([]int, 4) }, fault(api.ErrRange, -3)},
	{"one variable more than factors, no goal", func(t *api.NumericTask) { t.Init, t.Goal = make([]int, 4), nil }, fault(api.ErrRange, 0)},
	{"one operator too many", func(t *api.NumericTask) { t.Operators = make([]api.NumericOperator, api.MaxOperators+1) }, fault(api.ErrTooMany, -1)},
	{"one invalid operator too many", func(t *api.NumericTask) {
		t.Operators = slices.Repeat([]api.NumericOperator{{Cost: -1}}, api.MaxOperators+1)
	}, fault(api.ErrTooMany, -1)},
	{"far too many operators", func(t *api.NumericTask) { t.Operators = make([]api.NumericOperator, 1000000) }, fault(api.ErrTooMany, -1)},
	{"last of as many operators as permitted", func(t *api.NumericTask) {
		t.Operators = append(make([]api.NumericOperator, api.MaxOperators-1), api.NumericOperator{Cost: 101})
	}, fault(api.ErrRange, api.MaxOperators-1)},
	{"first one of several invalid operators", func(t *api.NumericTask) {
		t.Operators = []api.NumericOperator{{}, {Changes: []api.Change{{}}}, {Pre: make([]api.Comparison, 9)}, {Pre: make([]api.Comparison, 1)}}
	}, fault(api.ErrRange, 1)},
}

// TestValidate covers R8.1.
func TestValidate(t *testing.T) {
	for _, c := range slices.Concat(validChanges, orderedChanges, furtherChanges) {
		task := mill()
		c.apply(&task)
		if got := numeric.Validate(task); got != c.want {
			t.Errorf("%s: got %v, want %v", c.name, got, c.want)
		}
	}
}

// TestOrderOfErrors covers the order of the errors of R8.1: of any two, the one that is checked first is reported.
func TestOrderOfErrors(t *testing.T) {
	for i, first := range orderedChanges {
		for _, second := range orderedChanges[i+1:] {
			task := mill()
			second.apply(&task)
			first.apply(&task)
			if got := numeric.Validate(task); got != first.want {
				t.Errorf("%s and %s: got %v, want %v", first.name, second.name, got, first.want)
			}
		}
	}
}

// outside returns numbers that are not in the range from low to high: the nearest ones, and ones far away.
func outside(low, high int) []int {
	return ints(low-1, high+1, 1<<32, -1<<32, math.MinInt, math.MinInt+1, math.MaxInt-1, math.MaxInt)
}

// checkNumber expects that a number in a task is permitted exactly from low to high, and that all others lead to the given fault.
func checkNumber(t *testing.T, name string, low, high int, want api.Fault, put func(task *api.NumericTask, n int)) {
	t.Helper()
	check := func(n int, want api.Fault) {
		task := mill()
		put(&task, n)
		if got := numeric.Validate(task); got != want {
			t.Errorf("%s %d: got %v, want %v", name, n, got, want)
		}
	}
	for _, n := range ints(low, low+1, high-1, high) {
		check(n, fault(0, 0))
	}
	for _, n := range outside(low, high) {
		check(n, want)
	}
}

// TestRanges covers the ranges of R8.1 of each number in a task.
func TestRanges(t *testing.T) {
	for i := range 3 {
		checkNumber(t, "initial value", -api.MaxNumber, api.MaxNumber, fault(api.ErrMalformed, -2), func(task *api.NumericTask, n int) { task.Init[i] = n })
	}
	for i := range 2 {
		checkNumber(t, "kind in the goal", 1, 2, fault(api.ErrKind, -3), func(task *api.NumericTask, n int) { task.Goal[i].Kind = n })
		checkNumber(t, "kind in operator 1", 1, 2, fault(api.ErrKind, 1), func(task *api.NumericTask, n int) { task.Operators[1].Pre[i].Kind = n })
		checkNumber(t, "bound in the goal", -api.MaxNumber, api.MaxNumber, fault(api.ErrRange, -3), func(task *api.NumericTask, n int) { task.Goal[i].Bound = n })
		checkNumber(t, "bound in operator 1", -api.MaxNumber, api.MaxNumber, fault(api.ErrRange, 1), func(task *api.NumericTask, n int) { task.Operators[1].Pre[i].Bound = n })
		checkNumber(t, "constant", -1000, 1000, fault(api.ErrRange, 1), func(task *api.NumericTask, n int) { task.Operators[1].Changes[i].Constant = n })
		for k := range 3 {
			checkNumber(t, "factor in the goal", -1000, 1000, fault(api.ErrRange, -3), func(task *api.NumericTask, n int) { task.Goal[i].Factors[k] = n })
			checkNumber(t, "factor in a comparison of operator 1", -1000, 1000, fault(api.ErrRange, 1), func(task *api.NumericTask, n int) { task.Operators[1].Pre[i].Factors[k] = n })
			checkNumber(t, "factor in a change of operator 1", -1000, 1000, fault(api.ErrRange, 1), func(task *api.NumericTask, n int) { task.Operators[1].Changes[i].Factors[k] = n })
		}
	}
	checkNumber(t, "only changed variable", 0, 2, fault(api.ErrRange, 2), func(task *api.NumericTask, n int) {
		task.Operators[2].Changes = []api.Change{set(n, 0, 0, 0, 0)}
	})
	for i := range 4 {
		checkNumber(t, "cost", 0, api.MaxCost, fault(api.ErrRange, i), func(task *api.NumericTask, n int) { task.Operators[i].Cost = n })
	}
}

// places are the places for a list of comparisons, with the position at which its code is reported.
var places = []struct {
	name  string
	put   func(task *api.NumericTask, l []api.Comparison)
	index int
}{
	{"Goal", func(task *api.NumericTask, l []api.Comparison) { task.Goal = l }, -3},
	{"Pre of operator 0", func(task *api.NumericTask, l []api.Comparison) { task.Operators[0].Pre = l }, 0},
	{"Pre of operator 3", func(task *api.NumericTask, l []api.Comparison) { task.Operators[3].Pre = l }, 3},
}

// TestComparisons covers the code of a list of comparisons of R8.1.
func TestComparisons(t *testing.T) {
	good := atLeast(1, 1, 2, 3)
	kind := api.Comparison{Factors: ints(1, 2, 3)}
	far := equal(api.MaxNumber+1, 1, 2, 3)
	long, short, none := equal(0, 1, 2, 3, 4), equal(0, 1, 2), equal(0)
	both := api.Comparison{Kind: 3, Bound: api.MaxNumber + 1}
	for _, c := range []struct {
		name string
		list []api.Comparison
		want int
	}{
		{"none", nil, api.OK},
		{"one", compare(good), api.OK},
		{"as many as permitted", slices.Repeat(compare(good), api.MaxLiterals), api.OK},
		{"one too many", slices.Repeat(compare(good), api.MaxLiterals+1), api.ErrTooMany},
		{"invalid ones, one too many", slices.Repeat(compare(both), api.MaxLiterals+1), api.ErrTooMany},
		{"far too many", make([]api.Comparison, 1000000), api.ErrTooMany},
		{"zero comparison", make([]api.Comparison, 1), api.ErrKind},
		{"no factors", compare(none), api.ErrRange},
		{"too few factors", compare(short), api.ErrRange},
		{"too many factors", compare(long), api.ErrRange},
		{"kind and range", compare(both), api.ErrKind},
		{"kind, then range", compare(good, kind, far), api.ErrKind},
		{"range, then kind", compare(good, far, kind), api.ErrRange},
		{"factors, then kind", compare(short, kind), api.ErrRange},
		{"range, then both", compare(long, both), api.ErrRange},
		{"both, then range", compare(both, long), api.ErrKind},
		{"last of as many as permitted", append(slices.Repeat(compare(good), api.MaxLiterals-1), kind), api.ErrKind},
		{"last of as many as permitted, range", append(slices.Repeat(compare(good), api.MaxLiterals-1), far), api.ErrRange},
	} {
		for _, p := range places {
			task := mill()
			p.put(&task, c.list)
			want := fault(0, 0)
			if c.want != api.OK {
				want = fault(c.want, p.index)
			}
			if got := numeric.Validate(task); got != want {
				t.Errorf("%s in %s: got %v, want %v", c.name, p.name, got, want)
			}
		}
	}
}

// TestChanges covers the changes of an operator of R8.1.
func TestChanges(t *testing.T) {
	first, second, third := set(0, 0, 1, 2, 3), set(1, 0, 1, 2, 3), set(2, 0, 1, 2, 3)
	far := set(1, 1001, 1, 2, 3)
	long, short, none := set(1, 0, 1, 2, 3, 4), set(1, 0, 1, 2), set(1, 0)
	for _, c := range []struct {
		name string
		list []api.Change
		want int
	}{
		{"none", nil, api.OK},
		{"all", []api.Change{first, second, third}, api.OK},
		{"one between left out", []api.Change{first, third}, api.OK},
		{"zero change", make([]api.Change, 1), api.ErrRange},
		{"no factors", []api.Change{none}, api.ErrRange},
		{"too few factors", []api.Change{first, short}, api.ErrRange},
		{"too many factors", []api.Change{first, long}, api.ErrRange},
		{"no variable", []api.Change{first, second, third, set(3, 0, 1, 2, 3)}, api.ErrRange},
		{"the same variable again", []api.Change{first, first}, api.ErrMalformed},
		{"the same last variable again", []api.Change{first, third, third}, api.ErrMalformed},
		{"decreasing", []api.Change{second, first}, api.ErrMalformed},
		{"less than the preceding one only", []api.Change{first, third, second}, api.ErrMalformed},
		{"range and order of one change", []api.Change{third, far}, api.ErrRange},
		{"factors and order of one change", []api.Change{third, short}, api.ErrRange},
		{"order, then range", []api.Change{second, first, far}, api.ErrMalformed},
		{"range, then order", []api.Change{far, first}, api.ErrRange},
		{"order, then no variable", []api.Change{first, first, set(9, 0, 1, 2, 3)}, api.ErrMalformed},
		{"no variable, then order", []api.Change{set(9, 0, 1, 2, 3), first}, api.ErrRange},
		{"far too many", slices.Repeat([]api.Change{third}, 1000000), api.ErrMalformed},
		{"far too many, and a range", append(slices.Repeat([]api.Change{third}, 1000000), far), api.ErrMalformed},
	} {
		task := mill()
		// The cost is checked afterwards, and so are the changes of the next operator.
		task.Operators[1].Changes = c.list
		want := fault(0, 0)
		if c.want != api.OK {
			want = fault(c.want, 1)
			task.Operators[1].Cost = -1
			task.Operators[2].Changes = []api.Change{second, first}
		}
		if got := numeric.Validate(task); got != want {
			t.Errorf("%s: got %v, want %v", c.name, got, want)
		}
		// Each operator has its own order.
		task = mill()
		task.Operators[2].Changes, task.Operators[3].Changes = []api.Change{third}, c.list
		if want != fault(0, 0) {
			want.Index = 3
		}
		if got := numeric.Validate(task); got != want {
			t.Errorf("%s after another operator: got %v, want %v", c.name, got, want)
		}
	}
}
