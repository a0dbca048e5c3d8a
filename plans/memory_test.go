package plans_test

import (
	"fmt"
	"slices"
	"testing"

	"helmsman/api"
	"helmsman/plans"
)

// roomy returns a copy of a list with spare capacity that holds another element.
func roomy[E any](l []E, spare E) []E { return append(slices.Clone(l), spare)[:len(l)] }

// roomyTask returns a copy of a task whose lists have spare capacity.
func roomyTask(task api.Task) api.Task {
	task.Init, task.Goal = roomy(task.Init, 77), roomy(task.Goal, 77)
	task.Operators = roomy(task.Operators, api.Operator{Pre: ints(77)})
	for i, o := range task.Operators {
		o.Pre, o.Add, o.Del = roomy(o.Pre, 77), roomy(o.Add, 77), roomy(o.Del, 77)
		task.Operators[i] = o
	}
	return task
}

// whole returns a list with its spare capacity.
func whole[E any](l []E) []E { return l[:cap(l)] }

// memory describes all that a task and a plan refer to, with spare capacity.
func memory(task api.Task, plan []int) string {
	s := fmt.Sprint(task.Facts, whole(task.Init), whole(task.Goal), len(task.Operators), whole(plan), len(plan))
	for _, o := range whole(task.Operators) {
		s += fmt.Sprint(len(o.Pre), whole(o.Pre), len(o.Add), whole(o.Add), len(o.Del), whole(o.Del), o.Cost)
	}
	return s
}

// overwrite changes a result and its spare capacity.
func overwrite(l []int) {
	for i := range whole(l) {
		whole(l)[i] = 99
	}
}

// TestMemory covers Z4 and Z5: arguments and their spare capacity are not modified, results share no memory with them or with each other, and they depend on the arguments only.
func TestMemory(t *testing.T) {
	done := lifting()
	done.Goal = ints(bottom)
	for _, task := range []api.Task{lifting(), done, {Facts: -1}} {
		for _, plan := range [][]int{nil, ints(enter, up, leave, down), ints(up, down, enter, up, leave, down), longest(), ints(down), ints(9)} {
			task, plan := roomyTask(task), roomy(plan, 77)
			before := memory(task, plan)
			for _, f := range functions {
				f.run(task, plan)
			}
			first, f1 := plans.Reduce(task, plan)
			copied := slices.Clone(first)
			second, f2 := plans.Reduce(task, plan)
			overwrite(first)
			if f1 != f2 || !slices.Equal(second, copied) {
				t.Errorf("Reduce of %v: got %v, %v and then %v, %v", plan, copied, f1, second, f2)
			}
			overwrite(second)
			if after := memory(task, plan); after != before {
				t.Errorf("the arguments are now %v, were %v", after, before)
			}
		}
	}
}
