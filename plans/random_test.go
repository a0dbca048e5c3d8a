package plans_test

import (
	"fmt"
	"math/rand"
	"slices"
	"testing"

	"helmsman/api"
	"helmsman/plans"
	"helmsman/strips"
)

// state tells of each fact whether it is true.
type state [api.MaxFacts]bool

func (s state) has(facts []int) bool {
	for _, fact := range facts {
		if !s[fact] {
			return false
		}
	}
	return true
}

func (s state) with(facts []int, value bool) state {
	for _, fact := range facts {
		s[fact] = value
	}
	return s
}

func (s state) after(o api.Operator) state { return s.with(o.Del, false).with(o.Add, true) }

// failure is the result of Failure by the text of the document.
func failure(task api.Task, plan []int) int {
	s := state{}.with(task.Init, true)
	for i, op := range plan {
		if !s.has(task.Operators[op].Pre) {
			return i
		}
		s = s.after(task.Operators[op])
	}
	if s.has(task.Goal) {
		return -1
	}
	return len(plan)
}

// reduced is the result of Reduce by the text of the document. Each step that is not applicable is left out as soon as it is the first one.
func reduced(task api.Task, plan []int) []int {
	for i := 0; i < len(plan); {
		part := slices.Delete(slices.Clone(plan), i, i+1)
		at := failure(task, part)
		for ; at >= 0 && at < len(part); at = failure(task, part) {
			part = slices.Delete(part, at, at+1)
		}
		if at == -1 {
			plan = part
		} else {
			i++
		}
	}
	return plan
}

// solvingParts returns the parts of a plan that are solutions. It leaves out one step at a time.
func solvingParts(task api.Task, plan []int) [][]int {
	var solving [][]int
	seen := map[string]bool{}
	for open := [][]int{plan}; len(open) > 0; {
		part := open[0]
		open = open[1:]
		if name := fmt.Sprint(part); seen[name] {
			continue
		} else {
			seen[name] = true
		}
		if failure(task, part) == -1 {
			solving = append(solving, part)
		}
		for i := range part {
			open = append(open, slices.Delete(slices.Clone(part), i, i+1))
		}
	}
	return solving
}

// some returns some of the given facts, about share of 100.
func some(r *rand.Rand, facts []int, share int) []int {
	return slices.DeleteFunc(slices.Clone(facts), func(int) bool { return r.Intn(100) >= share })
}

// randomSolution returns a task with a solution of at most the given number of steps.
func randomSolution(r *rand.Rand, most int) (api.Task, []int) {
	n := 1 + r.Intn(7)
	task := api.Task{Facts: n, Init: some(r, upTo(n), 40)}
	for range 1 + r.Intn(8) {
		o := api.Operator{Pre: some(r, upTo(n), 25), Add: some(r, upTo(n), 25)}
		o.Del = some(r, slices.DeleteFunc(upTo(n), func(fact int) bool { return slices.Contains(o.Add, fact) }), 25)
		task.Operators = append(task.Operators, o)
	}
	var plan []int
	s := state{}.with(task.Init, true)
	for range r.Intn(2 * most) {
		if op := r.Intn(len(task.Operators)); len(plan) < most && s.has(task.Operators[op].Pre) {
			plan = append(plan, op)
			s = s.after(task.Operators[op])
		}
	}
	task.Goal = slices.DeleteFunc(upTo(n), func(fact int) bool { return !s[fact] || r.Intn(100) < 30 })
	return task, plan
}

// TestRandomFailures covers R7.1 for solutions, for plans that arise when one step is exchanged or left out, and for other goals.
func TestRandomFailures(t *testing.T) {
	r := rand.New(rand.NewSource(1))
	kinds := map[string]int{}
	for range 5000 {
		task, plan := randomSolution(r, api.MaxPlan)
		if len(plan) == 0 {
			continue
		}
		i := r.Intn(len(plan))
		switch r.Intn(4) {
		case 0:
			plan[i] = r.Intn(len(task.Operators))
		case 1:
			plan = slices.Delete(plan, i, i+1)
		case 2:
			task.Goal = some(r, upTo(task.Facts), 40)
		}
		want := failure(task, plan)
		got, f := plans.Failure(task, plan)
		if f != fault(0, 0) || got != want {
			t.Errorf("%v for %v: got %v, %v, want %v", plan, task, got, f, want)
		}
		if solves, _ := strips.Solves(task, plan); solves != (got == -1) {
			t.Errorf("%v for %v: got %v, but it is %v that it is a solution", plan, task, got, solves)
		}
		switch want {
		case -1:
			kinds["solution"]++
		case len(plan):
			kinds["goal"]++
		default:
			kinds["step"]++
		}
	}
	if min(kinds["solution"], kinds["goal"], kinds["step"]) < 300 {
		t.Errorf("too few of a kind: %v", kinds)
	}
}

// TestRandomReductions covers R7.2 for solutions of all lengths.
func TestRandomReductions(t *testing.T) {
	r := rand.New(rand.NewSource(2))
	shortened := 0
	for range 3000 {
		task, plan := randomSolution(r, api.MaxPlan)
		want := reduced(task, plan)
		got, f := plans.Reduce(task, plan)
		if f != fault(0, 0) || !slices.Equal(got, want) {
			t.Errorf("%v for %v: got %v, %v, want %v", plan, task, got, f, want)
		}
		if len(want) > 0 && len(want) < len(plan) {
			shortened++
		}
	}
	if shortened < 500 {
		t.Errorf("%d plans are shortened", shortened)
	}
}

// TestRandomParts covers R7.2 and R7.3 for short solutions, of which all parts are examined.
func TestRandomParts(t *testing.T) {
	r := rand.New(rand.NewSource(3))
	kinds := map[string]int{}
	for range 2000 {
		task, plan := randomSolution(r, 8)
		part, _ := plans.Reduce(task, plan)
		for _, p := range [][]int{plan, part} {
			solving := solvingParts(task, p)
			got, f := plans.Minimal(task, p)
			if want := len(solving) == 1; f != fault(0, 0) || got != want {
				t.Errorf("%v for %v: got %v, %v, want %v", p, task, got, f, want)
			}
			kinds[fmt.Sprint(got, " of ", min(len(p), 2))]++
		}
		isPart := func(s []int) bool { return slices.Equal(s, part) }
		if !slices.ContainsFunc(solvingParts(task, plan), isPart) {
			t.Errorf("%v for %v: %v is not a part that is a solution", plan, task, part)
		}
	}
	for _, kind := range []string{"true of 0", "true of 1", "true of 2", "false of 1", "false of 2"} {
		if kinds[kind] < 50 {
			t.Errorf("too few of a kind: %v", kinds)
		}
	}
}
