package strips_test

import (
	"math/rand"
	"slices"
	"testing"

	"helmsman/api"
	"helmsman/strips"
)

// subsets returns all strictly increasing lists of n facts.
func subsets(n int) [][]int {
	l := [][]int{nil}
	for fact := range n {
		for _, s := range l {
			l = append(l, append(slices.Clip(s), fact))
		}
	}
	return l
}

// within reports whether all elements of a are in b.
func within(a, b []int) bool {
	for _, fact := range a {
		if !slices.Contains(b, fact) {
			return false
		}
	}
	return true
}

// next returns the state after an operator, by the text of the document, and false if it is not applicable.
func next(task api.Task, o api.Operator, s []int) ([]int, bool) {
	var l []int
	for fact := range task.Facts {
		added := slices.Contains(o.Add, fact)
		kept := slices.Contains(s, fact) && !slices.Contains(o.Del, fact)
		if added || kept {
			l = append(l, fact)
		}
	}
	return l, within(o.Pre, s)
}

// smallTasks returns a task with one operator for each operator over three facts.
func smallTasks() []api.Task {
	var tasks []api.Task
	for _, pre := range subsets(3) {
		for _, add := range subsets(3) {
			for _, del := range subsets(3) {
				o := api.Operator{Pre: pre, Add: add, Del: del}
				if task := (api.Task{Facts: 3, Operators: []api.Operator{o}}); strips.Validate(task) == fault(0, 0) {
					tasks = append(tasks, task)
				}
			}
		}
	}
	return tasks
}

// TestSmallOperators covers R5.1, R5.2 and R5.3 for all operators over three facts in all states.
func TestSmallOperators(t *testing.T) {
	tasks := smallTasks()
	// Each fact is a precondition or not, and added, deleted or neither.
	if len(tasks) != 6*6*6 {
		t.Errorf("%d operators are valid", len(tasks))
	}
	for _, task := range tasks {
		for _, s := range subsets(3) {
			want, ok := next(task, task.Operators[0], s)
			applicable, f := strips.Applicable(task, s)
			if f != fault(0, 0) || len(applicable) > 0 != ok {
				t.Errorf("%v in %v: got %v, %v", task.Operators, s, applicable, f)
			}
			got, f := strips.Apply(task, s, 0)
			if ok && (f != fault(0, 0) || !slices.Equal(got, want)) || !ok && f != fault(api.ErrState, 0) {
				t.Errorf("%v in %v: got %v, %v, want %v", task.Operators, s, got, f, want)
			}
		}
	}
}

// TestSmallRegressions covers R5.7 for all operators over three facts and all goals: the set has the property of the document, and it is within each other set that has it.
func TestSmallRegressions(t *testing.T) {
	for _, task := range smallTasks() {
		for _, goal := range subsets(3) {
			leads := func(s []int) bool {
				after, ok := next(task, task.Operators[0], s)
				return ok && within(goal, after)
			}
			var sets [][]int
			for _, set := range subsets(3) {
				missed := func(s []int) bool { return within(set, s) && !leads(s) }
				if !slices.ContainsFunc(subsets(3), missed) {
					sets = append(sets, set)
				}
			}
			got, ok, f := strips.Regress(task, goal, 0)
			if f != fault(0, 0) || ok != (len(sets) > 0) || !ok && len(got) > 0 {
				t.Errorf("%v over %v: got %v, %v, %v, want one of %v", goal, task.Operators, got, ok, f, sets)
				continue
			}
			larger := func(set []int) bool { return within(got, set) }
			if ok && (!slices.ContainsFunc(sets, func(set []int) bool { return slices.Equal(set, got) }) || slices.ContainsFunc(sets, func(set []int) bool { return !larger(set) })) {
				t.Errorf("%v over %v: got %v, want the least of %v", goal, task.Operators, got, sets)
			}
		}
	}
}

// randomSet returns some of the facts that are not in the excluded ones.
func randomSet(r *rand.Rand, facts, share int, excluded []int) []int {
	var l []int
	for fact := range facts {
		if r.Intn(100) < share && !slices.Contains(excluded, fact) {
			l = append(l, fact)
		}
	}
	return l
}

// randomTask returns a valid task.
func randomTask(r *rand.Rand) api.Task {
	n := r.Intn(api.MaxFacts + 1)
	task := api.Task{Facts: n, Init: randomSet(r, n, 50, nil), Goal: randomSet(r, n, 15, nil)}
	for range 1 + r.Intn(api.MaxOperators) {
		o := api.Operator{Pre: randomSet(r, n, 10, nil), Add: randomSet(r, n, 20, nil), Cost: r.Intn(api.MaxCost + 1)}
		o.Del = randomSet(r, n, 15, o.Add)
		task.Operators = append(task.Operators, o)
	}
	return task
}

// randomPlan returns a plan of which nearly all steps are applicable one after the other, beginning in s, with the states before and after them up to the first step that is not applicable, and the sum of the costs of all steps.
func randomPlan(r *rand.Rand, task api.Task, s []int) (plan []int, states [][]int, cost int) {
	states = [][]int{s}
	all := true
	for range r.Intn(api.MaxPlan + 1) {
		op := r.Intn(len(task.Operators))
		after, ok := next(task, task.Operators[op], s)
		if !ok && r.Intn(100) > 0 {
			continue
		}
		plan = append(plan, op)
		cost += task.Operators[op].Cost
		if all = all && ok; all {
			s = after
			states = append(states, s)
		}
	}
	return plan, states, cost
}

// TestRandomPlans covers R5.2 to R5.6 for random tasks.
func TestRandomPlans(t *testing.T) {
	r := rand.New(rand.NewSource(5))
	solved, stopped := 0, 0
	for range 3000 {
		task := randomTask(r)
		plan, states, cost := randomPlan(r, task, task.Init)
		last := states[len(states)-1]
		complete := len(states) == len(plan)+1
		solves := complete && within(task.Goal, last)
		if solves {
			solved++
		}
		wantPlay, wantFault := states, fault(0, 0)
		if !complete {
			stopped++
			wantPlay, wantFault = nil, fault(api.ErrState, len(states)-1)
		}
		if got, f := strips.Play(task, task.Init, plan); f != wantFault || !same(got, wantPlay) {
			t.Errorf("Play(%v, %v): got %v, %v, want %v, %v", task, plan, got, f, wantPlay, wantFault)
		}
		if got, f := strips.Solves(task, plan); f != fault(0, 0) || got != solves {
			t.Errorf("Solves(%v, %v): got %v, %v, want %v", task, plan, got, f, solves)
		}
		if got, f := strips.Cost(task, plan); f != fault(0, 0) || got != cost {
			t.Errorf("Cost(%v, %v): got %v, %v, want %v", task, plan, got, f, cost)
		}
		checkOperators(t, task, last)
	}
	if solved < 100 || stopped < 100 {
		t.Errorf("%d plans are solutions, and %d are not applicable", solved, stopped)
	}
}

// checkOperators compares the results for each operator of a task in a state with the document.
func checkOperators(t *testing.T, task api.Task, s []int) {
	t.Helper()
	var applicable []int
	for op, o := range task.Operators {
		want, ok := next(task, o, s)
		wantFault := fault(api.ErrState, op)
		if ok {
			applicable = append(applicable, op)
			wantFault = fault(0, 0)
		} else {
			want = nil
		}
		if got, f := strips.Apply(task, s, op); f != wantFault || !slices.Equal(got, want) {
			t.Errorf("Apply(%v, %v, %d): got %v, %v, want %v, %v", task, s, op, got, f, want, wantFault)
		}
	}
	if got, f := strips.Applicable(task, s); f != fault(0, 0) || !slices.Equal(got, applicable) {
		t.Errorf("Applicable(%v, %v): got %v, %v, want %v", task, s, got, f, applicable)
	}
}
