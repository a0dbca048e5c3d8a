package multi_test

import (
	"fmt"
	"math/rand"
	"slices"
	"testing"

	"helmsman/api"
	"helmsman/multi"
	"helmsman/strips"
)

// value returns the value of a variable in a list of assignments, and false if there is none.
func value(l []api.Assign, v int) (int, bool) {
	for _, a := range l {
		if a.Var == v {
			return a.Value, true
		}
	}
	return 0, false
}

// satisfies reports whether a state has the values of all assignments.
func satisfies(s []int, l []api.Assign) bool {
	for v := range s {
		if x, ok := value(l, v); ok && x != s[v] {
			return false
		}
	}
	return true
}

// next returns the state after an operator by the text of the document, and false if it is not applicable.
func next(o api.MultiOperator, s []int) ([]int, bool) {
	if !satisfies(s, o.Pre) {
		return nil, false
	}
	var l []int
	for v := range s {
		x, ok := value(o.Post, v)
		if !ok {
			x = s[v]
		}
		l = append(l, x)
	}
	return l, true
}

// randomAssigns returns values of some of the variables, each of which has the given share.
func randomAssigns(r *rand.Rand, sizes []int, share int) []api.Assign {
	var l []api.Assign
	for v, size := range sizes {
		if r.Intn(100) < share {
			l = append(l, api.Assign{Var: v, Value: r.Intn(size)})
		}
	}
	return l
}

func randomState(r *rand.Rand, sizes []int) []int {
	var s []int
	for _, size := range sizes {
		s = append(s, r.Intn(size))
	}
	return s
}

// randomTask returns a valid task with values up to the given number.
func randomTask(r *rand.Rand, values int) api.MultiTask {
	var m api.MultiTask
	for range 1 + r.Intn(api.MaxVariables) {
		m.Sizes = append(m.Sizes, 1+r.Intn(values))
	}
	m.Init, m.Goal = randomState(r, m.Sizes), randomAssigns(r, m.Sizes, 20)
	for range 1 + r.Intn(api.MaxOperators) {
		m.Operators = append(m.Operators, api.MultiOperator{Pre: randomAssigns(r, m.Sizes, 25), Post: randomAssigns(r, m.Sizes, 40), Cost: r.Intn(api.MaxCost + 1)})
	}
	return m
}

// randomPlan returns a plan of which nearly all steps are applicable one after the other, its cost, and whether it is a solution.
func randomPlan(r *rand.Rand, m api.MultiTask) (plan []int, cost int, all, solves bool) {
	s, all := m.Init, true
	for range r.Intn(api.MaxPlan + 1) {
		op := r.Intn(len(m.Operators))
		after, ok := next(m.Operators[op], s)
		if !ok && r.Intn(100) > 0 {
			continue
		}
		plan = append(plan, op)
		cost += m.Operators[op].Cost
		all = all && ok
		if ok {
			s = after
		}
	}
	return plan, cost, all, all && satisfies(s, m.Goal)
}

// checkOperators compares the results for each operator of a task in a state with the document.
func checkOperators(t *testing.T, m api.MultiTask, s []int) {
	t.Helper()
	var applicable []int
	for op, o := range m.Operators {
		want, ok := next(o, s)
		wantFault := fault(api.ErrState, op)
		if ok {
			applicable, wantFault = append(applicable, op), fault(0, 0)
		}
		if got, f := multi.Apply(m, s, op); f != wantFault || !slices.Equal(got, want) {
			t.Errorf("Apply(%v, %v, %d): got %v, %v, want %v, %v", m, s, op, got, f, want, wantFault)
		}
	}
	if got, f := multi.Applicable(m, s); f != fault(0, 0) || !slices.Equal(got, applicable) {
		t.Errorf("Applicable(%v, %v): got %v, %v, want %v", m, s, got, f, applicable)
	}
}

// TestRandomPlans covers R9.1 to R9.5 for random tasks.
func TestRandomPlans(t *testing.T) {
	r := rand.New(rand.NewSource(9))
	solved, stopped := 0, 0
	for range 3000 {
		m := randomTask(r, api.MaxValues)
		if f := multi.Validate(m); f != fault(0, 0) {
			t.Errorf("Validate(%v): got %v", m, f)
		}
		checkOperators(t, m, randomState(r, m.Sizes))
		plan, cost, all, solves := randomPlan(r, m)
		if solves {
			solved++
		}
		if !all {
			stopped++
		}
		if got, f := multi.Solves(m, plan); f != fault(0, 0) || got != solves {
			t.Errorf("Solves(%v, %v): got %v, %v, want %v", m, plan, got, f, solves)
		}
		if got, f := multi.Cost(m, plan); f != fault(0, 0) || got != cost {
			t.Errorf("Cost(%v, %v): got %v, %v, want %v", m, plan, got, f, cost)
		}
	}
	if solved < 300 || stopped < 300 {
		t.Errorf("%d plans are solutions, and %d are not applicable", solved, stopped)
	}
}

// values returns the value that each fact stands for, in the order of R9.6.
func values(sizes []int) []api.Assign {
	var l []api.Assign
	for v, size := range sizes {
		for x := range size {
			l = append(l, api.Assign{Var: v, Value: x})
		}
	}
	return l
}

// facts returns the facts of the values that are chosen.
func facts(values []api.Assign, isChosen func(a api.Assign) bool) []int {
	var l []int
	for fact, a := range values {
		if isChosen(a) {
			l = append(l, fact)
		}
	}
	return l
}

// translated returns the task of R9.6 by its text.
func translated(m api.MultiTask) api.Task {
	all := values(m.Sizes)
	in := func(l []api.Assign) []int {
		return facts(all, func(a api.Assign) bool { return slices.Contains(l, a) })
	}
	t := api.Task{Facts: len(all), Goal: in(m.Goal), Init: facts(all, func(a api.Assign) bool { return m.Init[a.Var] == a.Value })}
	for _, o := range m.Operators {
		t.Operators = append(t.Operators, api.Operator{Pre: in(o.Pre), Add: in(o.Post), Cost: o.Cost, Del: facts(all, func(a api.Assign) bool {
			x, ok := value(o.Post, a.Var)
			return ok && x != a.Value
		})})
	}
	return t
}

// TestRandomFacts covers R9.6 for random tasks: the task is the one of the text, and steps and plans have the same results in both tasks.
func TestRandomFacts(t *testing.T) {
	r := rand.New(rand.NewSource(6))
	solved, unsolved, large := 0, 0, 0
	for range 1500 {
		m := randomTask(r, 1+r.Intn(api.MaxValues))
		want := translated(m)
		task, f := multi.Strips(m)
		if want.Facts > api.MaxFacts {
			large++
			if f != fault(api.ErrTooLarge, -8) || fmt.Sprint(task) != fmt.Sprint(api.Task{}) {
				t.Errorf("Strips(%v): got %v, %v", m, task, f)
			}
			continue
		}
		if f != fault(0, 0) || fmt.Sprint(task) != fmt.Sprint(want) {
			t.Errorf("Strips(%v): got %v, %v, want %v", m, task, f, want)
			continue
		}
		plan, cost, _, solves := randomPlan(r, m)
		if solves {
			solved++
		} else {
			unsolved++
		}
		if is, f := strips.Solves(task, plan); f != fault(0, 0) || is != solves {
			t.Errorf("%v: the plan %v of %v: got %v, %v, want %v", m, plan, task, is, f, solves)
		}
		if n, f := strips.Cost(task, plan); f != fault(0, 0) || n != cost {
			t.Errorf("%v: the plan %v of %v costs %v, %v, want %v", m, plan, task, n, f, cost)
		}
		compareSteps(t, m, task, randomState(r, m.Sizes))
	}
	if solved < 100 || unsolved < 100 || large < 50 {
		t.Errorf("%d plans are solutions, and %d are not; %d tasks are too large", solved, unsolved, large)
	}
}

// compareSteps applies each operator to a state of a task and to the state with the facts for its values.
func compareSteps(t *testing.T, m api.MultiTask, task api.Task, s []int) {
	t.Helper()
	of := func(s []int) []int {
		return facts(values(m.Sizes), func(a api.Assign) bool { return s[a.Var] == a.Value })
	}
	for op := range m.Operators {
		after, f1 := multi.Apply(m, s, op)
		got, f2 := strips.Apply(task, of(s), op)
		if f1 != f2 || f1 == fault(0, 0) && !slices.Equal(got, of(after)) {
			t.Errorf("%v: operator %d in %v leads to %v, %v, and in %v to %v, %v", m, op, s, after, f1, task, got, f2)
		}
	}
}
