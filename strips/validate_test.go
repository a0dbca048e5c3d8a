package strips_test

import (
	"math"
	"slices"
	"testing"

	"helmsman/api"
	"helmsman/strips"
)

func fault(code, index int) api.Fault { return api.Fault{Code: code, Index: index} }

func repeat[E any](e E, n int) []E { return slices.Repeat([]E{e}, n) }

// upTo returns the numbers from 0 to below n.
func upTo(n int) []int {
	var l []int
	for i := range n {
		l = append(l, i)
	}
	return l
}

// Facts of the task below: the van is in rome, or in bari, and the parcel is in rome, in the van, or in bari.
const (
	rome, bari = 0, 1
	sent       = 2
	loaded     = 3
	delivered  = 4
)

// Operators of the task below.
const drive, load, unload, back = 0, 1, 2, 3

// delivery returns a valid task, which drive, load, back and unload solve at a cost of 9.
func delivery() api.Task {
	return api.Task{
		Facts: 5,
		Init:  []int{rome, sent},
		Goal:  []int{rome, delivered},
		Operators: []api.Operator{
			{Pre: []int{rome}, Add: []int{bari}, Del: []int{rome}, Cost: 3},
			{Pre: []int{rome, sent}, Add: []int{loaded}, Del: []int{sent}, Cost: 1},
			{Pre: []int{bari, loaded}, Add: []int{delivered}, Del: []int{loaded}, Cost: 2},
			{Pre: []int{bari}, Add: []int{rome}, Del: []int{bari}, Cost: 3},
		},
	}
}

// change is a way to change the task of a delivery, and what Validate then reports.
type change struct {
	name  string
	apply func(t *api.Task)
	want  api.Fault
}

// operator changes one operator.
func operator(i int, apply func(o *api.Operator)) func(t *api.Task) {
	return func(t *api.Task) { apply(&t.Operators[i]) }
}

func pre(i int, l ...int) func(t *api.Task) {
	return operator(i, func(o *api.Operator) { o.Pre = l })
}

func effects(i int, add, del []int) func(t *api.Task) {
	return operator(i, func(o *api.Operator) { o.Add, o.Del = add, del })
}

func cost(i, c int) func(t *api.Task) {
	return operator(i, func(o *api.Operator) { o.Cost = c })
}

func facts(n int) func(t *api.Task) { return func(t *api.Task) { t.Facts = n } }

func initial(l ...int) func(t *api.Task) { return func(t *api.Task) { t.Init = l } }

func goal(l ...int) func(t *api.Task) { return func(t *api.Task) { t.Goal = l } }

func operators(l ...api.Operator) func(t *api.Task) {
	return func(t *api.Task) { t.Operators = l }
}

// validChanges lead to valid tasks: the edges of what is permitted.
var validChanges = []change{
	{"nothing", func(*api.Task) {}, fault(0, 0)},
	{"zero task", func(t *api.Task) { *t = api.Task{} }, fault(0, 0)},
	{"empty lists", func(t *api.Task) {
		*t = api.Task{Init: []int{}, Goal: []int{}, Operators: []api.Operator{{Pre: []int{}, Add: []int{}, Del: []int{}}}}
	}, fault(0, 0)},
	{"as many facts as permitted", facts(api.MaxFacts), fault(0, 0)},
	{"all facts everywhere", func(t *api.Task) {
		all := upTo(api.MaxFacts)
		*t = api.Task{Facts: api.MaxFacts, Init: all, Goal: all, Operators: []api.Operator{{Pre: all, Add: all}, {Pre: all, Del: all}}}
	}, fault(0, 0)},
	{"no facts initially", initial(), fault(0, 0)},
	{"no goal", goal(), fault(0, 0)},
	{"no operators", operators(), fault(0, 0)},
	{"operator without lists", operators(api.Operator{}), fault(0, 0)},
	{"as many operators as permitted", operators(repeat(api.Operator{Add: []int{4}}, api.MaxOperators)...), fault(0, 0)},
	{"least cost", cost(0, 0), fault(0, 0)},
	{"greatest cost", cost(3, api.MaxCost), fault(0, 0)},
	{"precondition that is added", effects(drive, []int{rome}, nil), fault(0, 0)},
	{"all facts added or deleted", effects(drive, []int{0, 2, 4}, []int{1, 3}), fault(0, 0)},
	{"all facts deleted", effects(drive, nil, []int{0, 1, 2, 3, 4}), fault(0, 0)},
}

// orderedChanges lead to errors, in the order in which R5.1 checks them. Any of them can be combined.
var orderedChanges = []change{
	{"too many facts", facts(api.MaxFacts + 1), fault(api.ErrRange, -1)},
	{"initial state", initial(rome, 99), fault(api.ErrMalformed, -2)},
	{"goal", goal(delivered, rome), fault(api.ErrMalformed, -3)},
	{"too many operators", func(t *api.Task) {
		t.Operators = append(t.Operators, make([]api.Operator, api.MaxOperators-3)...)
	}, fault(api.ErrTooMany, -1)},
	{"precondition of operator 0", pre(0, rome, rome), fault(api.ErrMalformed, 0)},
	{"cost of operator 0", cost(0, -1), fault(api.ErrRange, 0)},
	{"added fact of operator 1", operator(1, func(o *api.Operator) { o.Add = []int{-1} }), fault(api.ErrMalformed, 1)},
	{"cost of operator 1", cost(1, api.MaxCost+1), fault(api.ErrRange, 1)},
	{"deleted fact of operator 2", operator(2, func(o *api.Operator) { o.Del = []int{99} }), fault(api.ErrMalformed, 2)},
	{"cost of operator 2", cost(2, api.MaxCost+1), fault(api.ErrRange, 2)},
	{"common fact of operator 3", effects(3, []int{0, 2, 4}, []int{1, 2, 3}), fault(api.ErrMalformed, 3)},
	{"cost of operator 3", cost(3, -1), fault(api.ErrRange, 3)},
}

// furtherChanges lead to errors at the edges.
var furtherChanges = []change{
	{"fewer facts than none", facts(-1), fault(api.ErrRange, -1)},
	{"empty task with fewer facts than none", func(t *api.Task) { *t = api.Task{Facts: -1} }, fault(api.ErrRange, -1)},
	{"no facts", facts(0), fault(api.ErrMalformed, -2)},
	{"one fact only", facts(1), fault(api.ErrMalformed, -2)},
	{"one fact too few", facts(4), fault(api.ErrMalformed, -3)},
	{"facts that only operators have", func(t *api.Task) { *t = api.Task{Facts: 1, Operators: delivery().Operators} }, fault(api.ErrMalformed, 0)},
	{"one operator too many", operators(make([]api.Operator, api.MaxOperators+1)...), fault(api.ErrTooMany, -1)},
	{"an invalid operator among too many", operators(repeat(api.Operator{Cost: -1}, api.MaxOperators+1)...), fault(api.ErrTooMany, -1)},
	{"far too many operators", operators(make([]api.Operator, 1000000)...), fault(api.ErrTooMany, -1)},
	{"far too long initial state", initial(make([]int, 1000000)...), fault(api.ErrMalformed, -2)},
	{"far too long goal", goal(upTo(1000000)...), fault(api.ErrMalformed, -3)},
	{"far too long precondition", pre(1, upTo(1000000)...), fault(api.ErrMalformed, 1)},
	{"last fact", initial(0, 1, 2, 3, 4, 5), fault(api.ErrMalformed, -2)},
	{"first of several invalid operators", operators(api.Operator{}, api.Operator{Cost: 101}, api.Operator{Pre: []int{5}}), fault(api.ErrRange, 1)},
	{"last of as many operators as permitted", func(t *api.Task) {
		t.Operators = append(make([]api.Operator, api.MaxOperators-1), api.Operator{Cost: 101})
	}, fault(api.ErrRange, api.MaxOperators-1)},
	{"first fact added and deleted", effects(0, []int{0, 1}, []int{0, 2}), fault(api.ErrMalformed, 0)},
	{"last fact added and deleted", effects(2, []int{1, 4}, []int{0, 4}), fault(api.ErrMalformed, 2)},
	{"fact 23 added and deleted", func(t *api.Task) {
		*t = api.Task{Facts: api.MaxFacts, Operators: []api.Operator{{Add: []int{23}, Del: []int{23}}}}
	}, fault(api.ErrMalformed, 0)},
	{"fact 24 of as many as permitted", func(t *api.Task) {
		*t = api.Task{Facts: api.MaxFacts, Goal: []int{24}}
	}, fault(api.ErrMalformed, -3)},
}

// TestValidate covers R5.1.
func TestValidate(t *testing.T) {
	for _, c := range slices.Concat(validChanges, orderedChanges, furtherChanges) {
		task := delivery()
		c.apply(&task)
		if got := strips.Validate(task); got != c.want {
			t.Errorf("%s: got %v, want %v", c.name, got, c.want)
		}
	}
}

// TestOrderOfErrors covers the order of the errors of R5.1: of any two, the one that is checked first is reported.
func TestOrderOfErrors(t *testing.T) {
	for i, first := range orderedChanges {
		for _, second := range orderedChanges[i+1:] {
			for _, changes := range [][]change{{first, second}, {second, first}} {
				task := delivery()
				changes[0].apply(&task)
				changes[1].apply(&task)
				if got := strips.Validate(task); got != first.want {
					t.Errorf("%s and %s: got %v, want %v", changes[0].name, changes[1].name, got, first.want)
				}
			}
		}
	}
}

// place is a place for a list of facts, with the fault for a list there that is malformed.
type place struct {
	name  string
	check func(task api.Task, l []int) api.Fault
	want  api.Fault
}

// inOperator returns a check of a list that is put into operator 1 of a task.
func inOperator(put func(o *api.Operator, l []int)) func(task api.Task, l []int) api.Fault {
	return func(task api.Task, l []int) api.Fault {
		task.Operators = make([]api.Operator, 3)
		put(&task.Operators[1], l)
		return strips.Validate(task)
	}
}

var places = []place{
	{"Init", func(task api.Task, l []int) api.Fault { task.Init = l; return strips.Validate(task) }, fault(api.ErrMalformed, -2)},
	{"Goal", func(task api.Task, l []int) api.Fault { task.Goal = l; return strips.Validate(task) }, fault(api.ErrMalformed, -3)},
	{"Pre", inOperator(func(o *api.Operator, l []int) { o.Pre = l }), fault(api.ErrMalformed, 1)},
	{"Add", inOperator(func(o *api.Operator, l []int) { o.Add = l }), fault(api.ErrMalformed, 1)},
	{"Del", inOperator(func(o *api.Operator, l []int) { o.Del = l }), fault(api.ErrMalformed, 1)},
	{"state of Applicable", func(task api.Task, l []int) api.Fault {
		_, f := strips.Applicable(task, l)
		return f
	}, fault(api.ErrMalformed, -4)},
	{"state of Apply", func(task api.Task, l []int) api.Fault {
		task.Operators = []api.Operator{{}}
		_, f := strips.Apply(task, l, 0)
		return f
	}, fault(api.ErrMalformed, -4)},
	{"state of Play", func(task api.Task, l []int) api.Fault {
		_, f := strips.Play(task, l, nil)
		return f
	}, fault(api.ErrMalformed, -4)},
	{"goal of Regress", func(task api.Task, l []int) api.Fault {
		task.Operators = []api.Operator{{}}
		_, _, f := strips.Regress(task, l, 0)
		return f
	}, fault(api.ErrMalformed, -4)},
}

// isStrictlyIncreasing compares each two elements.
func isStrictlyIncreasing(l []int, facts int) bool {
	for k, fact := range l {
		if fact < 0 || fact >= facts {
			return false
		}
		for _, earlier := range l[:k] {
			if earlier >= fact {
				return false
			}
		}
	}
	return true
}

// TestListsOfFacts covers all lists of at most three numbers about the facts, and numbers far outside of them, in each place for a list.
func TestListsOfFacts(t *testing.T) {
	lists := [][]int{{}}
	for start := 0; len(lists[start]) < 3; start++ {
		for fact := -1; fact <= 4; fact++ {
			lists = append(lists, append(slices.Clip(lists[start]), fact))
		}
	}
	for _, far := range []int{math.MinInt, math.MinInt + 1, -64, -2, 24, 63, 64, 65, 1 << 32, math.MaxInt - 1, math.MaxInt} {
		lists = append(lists, []int{far}, []int{1, far}, []int{far, 1}, []int{far, far})
	}
	for _, p := range places {
		for _, n := range []int{0, 1, 3, 4} {
			for _, l := range lists {
				want := p.want
				if isStrictlyIncreasing(l, n) {
					want = fault(0, 0)
				}
				if got := p.check(api.Task{Facts: n}, l); got != want {
					t.Errorf("%s %v with %d facts: got %v, want %v", p.name, l, n, got, want)
				}
			}
		}
	}
}

// TestFarNumbers covers R5.1 for numbers that are far outside their ranges.
func TestFarNumbers(t *testing.T) {
	for _, far := range []int{math.MinInt, math.MinInt + 1, -1, 101, 1 << 32, math.MaxInt - 1, math.MaxInt} {
		if got := strips.Validate(api.Task{Facts: far}); got != fault(api.ErrRange, -1) {
			t.Errorf("%d facts: got %v", far, got)
		}
		if got := strips.Validate(api.Task{Facts: far, Init: []int{far - 1}}); got != fault(api.ErrRange, -1) {
			t.Errorf("%d facts with the last one: got %v", far, got)
		}
		if got := strips.Validate(api.Task{Operators: []api.Operator{{}, {Cost: far}}}); got != fault(api.ErrRange, 1) {
			t.Errorf("cost of %d: got %v", far, got)
		}
	}
}
