package multi_test

import (
	"math"
	"slices"
	"testing"

	"helmsman/api"
	"helmsman/multi"
)

// change is a way to change the task of a lift, and what Validate then reports.
type change struct {
	name  string
	apply func(m *api.MultiTask)
	want  api.Fault
}

// validChanges lead to valid tasks: the edges of what is permitted.
var validChanges = []change{
	{"nothing", func(*api.MultiTask) {}, fault(0, 0)},
	{"one variable with one value", func(m *api.MultiTask) { *m = api.MultiTask{Sizes: ints(1), Init: ints(0)} }, fault(0, 0)},
	{"empty lists", func(m *api.MultiTask) {
		*m = api.MultiTask{Sizes: ints(1), Init: ints(0), Goal: is(), Operators: []api.MultiOperator{{Pre: []api.Assign{}, Post: []api.Assign{}}}}
	}, fault(0, 0)},
	{"as many variables and values as permitted", func(m *api.MultiTask) {
		*m = api.MultiTask{Sizes: repeat(api.MaxValues, api.MaxVariables), Init: repeat(api.MaxValues-1, api.MaxVariables), Goal: is([2]int{7, 5})}
	}, fault(0, 0)},
	{"greatest initial values", func(m *api.MultiTask) { m.Init = ints(2, 1, 3, 0, 5) }, fault(0, 0)},
	{"least initial values", func(m *api.MultiTask) { m.Init = make([]int, 5) }, fault(0, 0)},
	{"no goal", func(m *api.MultiTask) { m.Goal = nil }, fault(0, 0)},
	{"all variables in the goal", func(m *api.MultiTask) {
		m.Goal = is([2]int{0, 2}, [2]int{1, 1}, [2]int{2, 3}, [2]int{3, 0}, [2]int{4, 5})
	}, fault(0, 0)},
	{"no operators", func(m *api.MultiTask) { m.Operators = nil }, fault(0, 0)},
	{"as many operators as permitted", func(m *api.MultiTask) { m.Operators = make([]api.MultiOperator, api.MaxOperators) }, fault(0, 0)},
	{"the same operators again", func(m *api.MultiTask) { m.Operators = slices.Repeat(m.Operators, 5) }, fault(0, 0)},
	{"Post equal to Pre", func(m *api.MultiTask) { m.Operators[lower].Post = m.Operators[lower].Pre }, fault(0, 0)},
	{"all variables in Pre and Post", func(m *api.MultiTask) {
		all := is([2]int{0, 2}, [2]int{1, 1}, [2]int{2, 3}, [2]int{3, 0}, [2]int{4, 5})
		m.Operators[pause] = api.MultiOperator{Pre: all, Post: all}
	}, fault(0, 0)},
	{"operator that is never applicable", func(m *api.MultiTask) {
		*m = api.MultiTask{Sizes: ints(2), Init: ints(0), Operators: []api.MultiOperator{{Pre: is([2]int{0, 1}), Post: is([2]int{0, 0})}}}
	}, fault(0, 0)},
}

// orderedChanges lead to errors, in the order in which R9.1 checks them. Any of them can be combined.
var orderedChanges = []change{
	{"too many variables", func(m *api.MultiTask) { m.Sizes = append(m.Sizes, 1, 1, 1, 1) }, fault(api.ErrTooMany, -1)},
	{"last size", func(m *api.MultiTask) { m.Sizes[left] = api.MaxValues + 1 }, fault(api.ErrRange, -1)},
	{"initial value", func(m *api.MultiTask) { m.Init[guest] = 9 }, fault(api.ErrMalformed, -2)},
	{"goal", func(m *api.MultiTask) { m.Goal[1].Var = door }, fault(api.ErrMalformed, -3)},
	{"too many operators", func(m *api.MultiTask) {
		m.Operators = append(m.Operators, make([]api.MultiOperator, api.MaxOperators-6)...)
	}, fault(api.ErrTooMany, -1)},
	{"Pre of operator 0", func(m *api.MultiTask) { m.Operators[0].Pre[1].Value = -1 }, fault(api.ErrMalformed, 0)},
	{"Post of operator 0", func(m *api.MultiTask) { m.Operators[0].Post[0].Var = left }, fault(api.ErrMalformed, 0)},
	{"cost of operator 0", func(m *api.MultiTask) { m.Operators[0].Cost = -1 }, fault(api.ErrRange, 0)},
	{"cost of operator 1", func(m *api.MultiTask) { m.Operators[1].Cost = api.MaxCost + 1 }, fault(api.ErrRange, 1)},
	{"Post of operator 2", func(m *api.MultiTask) { m.Operators[2].Post[0].Var = 8 }, fault(api.ErrMalformed, 2)},
	{"Pre of operator 5", func(m *api.MultiTask) { m.Operators[5].Pre[0].Value = 6 }, fault(api.ErrMalformed, 5)},
	{"cost of operator 6", func(m *api.MultiTask) { m.Operators[6].Cost = 101 }, fault(api.ErrRange, 6)},
}

// furtherChanges lead to errors at the edges.
var furtherChanges = []change{
	{"zero task", func(m *api.MultiTask) { *m = api.MultiTask{} }, fault(api.ErrTooMany, -1)},
	{"no variables, but all else", func(m *api.MultiTask) { m.Sizes = ints() }, fault(api.ErrTooMany, -1)},
	{"one variable too many", func(m *api.MultiTask) {
		*m = api.MultiTask{Sizes: repeat(1, api.MaxVariables+1), Init: make([]int, api.MaxVariables+1)}
	}, fault(api.ErrTooMany, -1)},
	{"far too many variables without values", func(m *api.MultiTask) { m.Sizes = make([]int, 1000000) }, fault(api.ErrTooMany, -1)},
	{"no initial values", func(m *api.MultiTask) { m.Init = nil }, fault(api.ErrMalformed, -2)},
	{"one initial value too few", func(m *api.MultiTask) { m.Init = ints(0, 0, 0, 0) }, fault(api.ErrMalformed, -2)},
	{"one initial value too many", func(m *api.MultiTask) { m.Init = ints(0, 0, 0, 0, 0, 0) }, fault(api.ErrMalformed, -2)},
	{"far too many initial values", func(m *api.MultiTask) { m.Init = make([]int, 1000000) }, fault(api.ErrMalformed, -2)},
	{"fewer variables than are used in Init", func(m *api.MultiTask) { m.Sizes = m.Sizes[:4] }, fault(api.ErrMalformed, -2)},
	{"fewer variables than are used in Goal", func(m *api.MultiTask) { m.Sizes, m.Init = m.Sizes[:2], m.Init[:2] }, fault(api.ErrMalformed, -3)},
	{"fewer variables than are used in Post", func(m *api.MultiTask) { m.Sizes, m.Init = m.Sizes[:4], m.Init[:4] }, fault(api.ErrMalformed, 0)},
	{"fewer variables than are used in Pre", func(m *api.MultiTask) {
		*m = api.MultiTask{Sizes: ints(2), Init: ints(0), Operators: []api.MultiOperator{{}, {Pre: is([2]int{0, 1}, [2]int{1, 0})}}}
	}, fault(api.ErrMalformed, 1)},
	{"one operator too many", func(m *api.MultiTask) { m.Operators = make([]api.MultiOperator, api.MaxOperators+1) }, fault(api.ErrTooMany, -1)},
	{"one invalid operator too many", func(m *api.MultiTask) {
		m.Operators = repeat(api.MultiOperator{Cost: -1}, api.MaxOperators+1)
	}, fault(api.ErrTooMany, -1)},
	{"far too many operators", func(m *api.MultiTask) { m.Operators = make([]api.MultiOperator, 1000000) }, fault(api.ErrTooMany, -1)},
	{"last of as many operators as permitted", func(m *api.MultiTask) {
		m.Operators = append(make([]api.MultiOperator, api.MaxOperators-1), api.MultiOperator{Cost: 101})
	}, fault(api.ErrRange, api.MaxOperators-1)},
	{"first one of several invalid operators", func(m *api.MultiTask) {
		bad := is([2]int{9, 9})
		m.Operators = []api.MultiOperator{{}, {}, {Post: bad}, {Cost: -1}, {Pre: bad}}
	}, fault(api.ErrMalformed, 2)},
	{"first one of several invalid operators, with a cost", func(m *api.MultiTask) {
		bad := is([2]int{9, 9})
		m.Operators = []api.MultiOperator{{}, {Cost: -1}, {Post: bad}, {Pre: bad}}
	}, fault(api.ErrRange, 1)},
}

// TestValidate covers R9.1.
func TestValidate(t *testing.T) {
	for _, c := range slices.Concat(validChanges, orderedChanges, furtherChanges) {
		m := lift()
		c.apply(&m)
		if got := multi.Validate(m); got != c.want {
			t.Errorf("%s: got %v, want %v", c.name, got, c.want)
		}
	}
}

// TestOrderOfErrors covers the order of the errors of R9.1: of any two, the one that is checked first is reported.
func TestOrderOfErrors(t *testing.T) {
	for i, first := range orderedChanges {
		for _, second := range orderedChanges[i+1:] {
			m := lift()
			second.apply(&m)
			first.apply(&m)
			if got := multi.Validate(m); got != first.want {
				t.Errorf("%s and %s: got %v, want %v", first.name, second.name, got, first.want)
			}
		}
	}
}

// outside returns numbers that are not in the range from low to high: the nearest ones, and ones far away.
func outside(low, high int) []int {
	return ints(low-1, high+1, 1<<32+low, -1<<32+low, math.MinInt, math.MinInt+1, math.MaxInt-1, math.MaxInt)
}

// checkNumber expects that a number in a task is permitted exactly from low to high, and that all others lead to the given fault.
func checkNumber(t *testing.T, name string, low, high int, want api.Fault, put func(m *api.MultiTask, n int)) {
	t.Helper()
	check := func(n int, want api.Fault) {
		m := lift()
		put(&m, n)
		if got := multi.Validate(m); got != want {
			t.Errorf("%s %d: got %v, want %v", name, n, got, want)
		}
	}
	for n := low; n <= high; n++ {
		check(n, fault(0, 0))
	}
	for _, n := range outside(low, high) {
		check(n, want)
	}
}

// TestRanges covers the ranges of R9.1 of each number in a task.
func TestRanges(t *testing.T) {
	for v := range api.MaxVariables {
		checkNumber(t, "size", 1, api.MaxValues, fault(api.ErrRange, -1), func(m *api.MultiTask, n int) {
			*m = api.MultiTask{Sizes: repeat(1, api.MaxVariables), Init: make([]int, api.MaxVariables)}
			m.Sizes[v] = n
		})
	}
	for v, size := range lift().Sizes {
		checkNumber(t, "initial value", 0, size-1, fault(api.ErrMalformed, -2), func(m *api.MultiTask, n int) { m.Init[v] = n })
		for _, p := range places {
			checkNumber(t, "value in "+p.name, 0, size-1, p.want, func(m *api.MultiTask, n int) { p.put(m, is([2]int{v, n})) })
		}
	}
	for _, p := range places {
		checkNumber(t, "variable in "+p.name, 0, 4, p.want, func(m *api.MultiTask, n int) { p.put(m, is([2]int{n, 0})) })
	}
	for i := range lift().Operators {
		checkNumber(t, "cost", 0, api.MaxCost, fault(api.ErrRange, i), func(m *api.MultiTask, n int) { m.Operators[i].Cost = n })
	}
}

// place is a place for a list of assignments, with the fault for a list there that is not valid.
type place struct {
	name string
	put  func(m *api.MultiTask, l []api.Assign)
	want api.Fault
}

var places = []place{
	{"Goal", func(m *api.MultiTask, l []api.Assign) { m.Goal = l }, fault(api.ErrMalformed, -3)},
	{"Pre of operator 0", func(m *api.MultiTask, l []api.Assign) { m.Operators[0].Pre = l }, fault(api.ErrMalformed, 0)},
	{"Post of operator 0", func(m *api.MultiTask, l []api.Assign) { m.Operators[0].Post = l }, fault(api.ErrMalformed, 0)},
	{"Pre of operator 6", func(m *api.MultiTask, l []api.Assign) { m.Operators[6].Pre = l }, fault(api.ErrMalformed, 6)},
	{"Post of operator 6", func(m *api.MultiTask, l []api.Assign) { m.Operators[6].Post = l }, fault(api.ErrMalformed, 6)},
}

// isValid follows the text of R9.1, and compares each two assignments.
func isValid(sizes []int, l []api.Assign) bool {
	for i, a := range l {
		if a.Var < 0 || a.Var >= len(sizes) || a.Value < 0 || a.Value >= sizes[a.Var] {
			return false
		}
		for _, earlier := range l[:i] {
			if earlier.Var >= a.Var {
				return false
			}
		}
	}
	return true
}

// TestAssignments covers all lists of at most three assignments about the variables and values of a small task, in each place for a list.
func TestAssignments(t *testing.T) {
	sizes := ints(2, 1, 3)
	lists := [][]api.Assign{{}}
	for start := 0; len(lists[start]) < 3; start++ {
		for v := -1; v <= len(sizes); v++ {
			for value := -1; value <= 3; value++ {
				lists = append(lists, append(slices.Clip(lists[start]), api.Assign{Var: v, Value: value}))
			}
		}
	}
	valid := 0
	for _, l := range lists {
		ok := isValid(sizes, l)
		if ok {
			valid++
		}
		for _, p := range places {
			m := api.MultiTask{Sizes: sizes, Init: ints(1, 0, 2), Operators: make([]api.MultiOperator, 7)}
			p.put(&m, l)
			want := p.want
			if ok {
				want = fault(0, 0)
			}
			if got := multi.Validate(m); got != want {
				t.Errorf("%s %v: got %v, want %v", p.name, l, got, want)
			}
		}
	}
	// Each variable is in a list with one of its values, or not at all.
	if valid != 3*2*4 {
		t.Errorf("%d lists are valid", valid)
	}
}

// TestLongLists covers lists with more assignments than variables.
func TestLongLists(t *testing.T) {
	all := is([2]int{0, 0}, [2]int{1, 0}, [2]int{2, 0}, [2]int{3, 0}, [2]int{4, 0})
	for _, l := range [][]api.Assign{append(all, api.Assign{Var: 5}), append(all, api.Assign{Var: 4}), append(all, api.Assign{}), make([]api.Assign, 1000000)} {
		for _, p := range places {
			m := lift()
			p.put(&m, l)
			if got := multi.Validate(m); got != p.want {
				t.Errorf("%s with %d assignments: got %v, want %v", p.name, len(l), got, p.want)
			}
		}
	}
}
