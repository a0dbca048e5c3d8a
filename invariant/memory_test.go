package invariant_test

import (
	"fmt"
	"slices"
	"testing"

	"helmsman/api"
	"helmsman/invariant"
)

// roomy returns a copy of a list with spare capacity that holds another element.
func roomy[E any](l []E, spare E) []E { return append(slices.Clone(l), spare)[:len(l)] }

// roomyTask returns a copy of a task whose lists have spare capacity.
func roomyTask(task api.Task) api.Task {
	task.Init, task.Goal = roomy(task.Init, 77), roomy(task.Goal, 77)
	task.Operators = roomy(task.Operators, api.Operator{Pre: ints(77)})
	for i, o := range task.Operators {
		o.Pre, o.Add, o.Del = roomy(o.Pre, 77), roomy(o.Add, 77), roomy(o.Del, 77)
		task.Operators[i] = o
	}
	return task
}

// whole returns a list with its spare capacity.
func whole[E any](l []E) []E { return l[:cap(l)] }

// memory describes all that a task and a group refer to, with spare capacity.
func memory(task api.Task, group []int) string {
	s := fmt.Sprint(task.Facts, whole(task.Init), whole(task.Goal), len(task.Operators), whole(group), len(group))
	for _, o := range whole(task.Operators) {
		s += fmt.Sprint(len(o.Pre), whole(o.Pre), len(o.Add), whole(o.Add), len(o.Del), whole(o.Del), o.Cost)
	}
	return s
}

// expectOwn changes each group in turn, with its spare capacity, and expects that the other ones remain as they are.
func expectOwn(t *testing.T, groups [][]int) {
	t.Helper()
	for i, changed := range groups {
		var before []string
		for _, g := range groups {
			before = append(before, fmt.Sprint(whole(g)))
		}
		for k := range whole(changed) {
			whole(changed)[k] -= 50
		}
		for k, g := range groups {
			if after := fmt.Sprint(whole(g)); k != i && after != before[k] {
				t.Errorf("group %d is now %v, was %v, after group %d was changed", k, after, before[k], i)
			}
		}
	}
}

// TestMemory covers Z4 and Z5: arguments and their spare capacity are not modified, results share no memory with them or with each other, and they depend on the arguments only.
func TestMemory(t *testing.T) {
	tasks := []api.Task{shipping(), with(10), from(with(8), 0, 2, 3, 7), with(api.MaxFacts), with(3, move(0, 1), move(1, 0)), {Facts: -1}, {}}
	for _, task := range tasks {
		for _, group := range [][]int{nil, ints(first, sea, second), ints(0, 1), ints(1, 0), task.Init} {
			task, group := roomyTask(task), roomy(group, 77)
			before := memory(task, group)
			is, f1 := invariant.Inductive(task, group)
			if again, f2 := invariant.Inductive(task, group); is != again || f1 != f2 {
				t.Errorf("Inductive of %v for %v: got %v, %v and then %v, %v", group, task, is, f1, again, f2)
			}
			groups, f1 := invariant.Find(task)
			found := fmt.Sprint(groups)
			expectOwn(t, groups)
			again, f2 := invariant.Find(task)
			if f1 != f2 || fmt.Sprint(again) != found {
				t.Errorf("Find for %v: got %v, %v and then %v, %v", task, found, f1, again, f2)
			}
			if after := memory(task, group); after != before {
				t.Errorf("the arguments are now %v, were %v", after, before)
			}
		}
	}
}
