package plans_test

import (
	"slices"
	"testing"

	"helmsman/api"
	"helmsman/plans"
)

func fault(code, index int) api.Fault { return api.Fault{Code: code, Index: index} }

func ints(l ...int) []int { return l }

// Facts of the task below: the lift is at the bottom or at the top, and the box is at the bottom, in the lift, or at the top.
const bottom, top, boxBottom, boxInside, boxTop = 0, 1, 2, 3, 4

// Operators of the task below.
const up, down, enter, leave, leaveBelow = 0, 1, 2, 3, 4

// lifting returns a valid task, which enter, up, leave and down solve.
func lifting() api.Task {
	return api.Task{
		Facts: 5,
		Init:  ints(bottom, boxBottom),
		Goal:  ints(bottom, boxTop),
		Operators: []api.Operator{
			up:         {Pre: ints(bottom), Add: ints(top), Del: ints(bottom), Cost: 2},
			down:       {Pre: ints(top), Add: ints(bottom), Del: ints(top), Cost: 1},
			enter:      {Pre: ints(bottom, boxBottom), Add: ints(boxInside), Del: ints(boxBottom)},
			leave:      {Pre: ints(top, boxInside), Add: ints(boxTop), Del: ints(boxInside)},
			leaveBelow: {Pre: ints(bottom, boxInside), Add: ints(boxBottom), Del: ints(boxInside)},
		},
	}
}

// chain returns a task with the goal to make all of n facts true, each of which is a precondition of the operator that adds the next one. The operators up to n-1 do so, and operator n does nothing.
func chain(n int) api.Task {
	task := api.Task{Facts: n}
	for i := range n {
		task.Goal = append(task.Goal, i)
		o := api.Operator{Add: ints(i)}
		if i > 0 {
			o.Pre = ints(i - 1)
		}
		task.Operators = append(task.Operators, o)
	}
	task.Operators = append(task.Operators, api.Operator{})
	return task
}

// late returns a task whose goal is true initially. Operator 1 makes it false, and operator 2 true again, but only after operator 0.
func late() api.Task {
	return api.Task{Facts: 2, Init: ints(1), Goal: ints(1), Operators: []api.Operator{
		{Add: ints(0)},
		{Del: ints(1)},
		{Pre: ints(0), Add: ints(1)},
	}}
}

// upTo returns the numbers from 0 to below n.
func upTo(n int) []int {
	var l []int
	for i := range n {
		l = append(l, i)
	}
	return l
}

// longest returns a solution of lifting with as many steps as permitted.
func longest() []int {
	return append(ints(enter, up, leave, down), slices.Repeat(ints(up, down), api.MaxPlan/2-2)...)
}

// TestFailure covers R7.1.
func TestFailure(t *testing.T) {
	done, free := lifting(), lifting()
	done.Goal = ints(boxBottom)
	free.Goal = nil
	stopped := longest()
	stopped[api.MaxPlan-1] = up
	for _, c := range []struct {
		name string
		task api.Task
		plan []int
		want int
	}{
		{"solution", lifting(), ints(enter, up, leave, down), -1},
		{"solution with a detour", lifting(), ints(up, down, enter, up, leave, down), -1},
		{"longest solution", lifting(), longest(), -1},
		{"goal not reached", lifting(), ints(enter, up, leave), 3},
		{"goal reached only in between", lifting(), ints(enter, up, leave, down, up), 5},
		{"nothing of the goal reached", lifting(), ints(up), 1},
		{"longest plan without its first steps", lifting(), longest()[4:], api.MaxPlan - 4},
		{"empty plan, goal not true initially", lifting(), nil, 0},
		{"empty plan, goal true initially", done, nil, -1},
		{"empty plan, no goal", free, nil, -1},
		{"empty plan of the zero task", api.Task{}, ints(), -1},
		{"goal true initially only", done, ints(enter), 1},
		{"first step not applicable", lifting(), ints(leave, enter, up, leave, down), 0},
		{"only step not applicable", lifting(), ints(down), 0},
		{"second step not applicable", lifting(), ints(enter, leave, up, leave, down), 1},
		{"last step not applicable", lifting(), ints(enter, up, leave, down, down), 4},
		{"last of the most steps not applicable", lifting(), stopped, api.MaxPlan - 1},
		{"two steps not applicable", lifting(), ints(up, up, up, down), 1},
		{"goal reached before a step that is not applicable", lifting(), ints(enter, up, leave, down, leave, up), 4},
		{"no goal, but a step that is not applicable", free, ints(up, leave), 1},
		{"no goal, all steps applicable", free, ints(up, down, up), -1},
	} {
		if got, f := plans.Failure(c.task, c.plan); f != fault(0, 0) || got != c.want {
			t.Errorf("%s: got %v, %v, want %v", c.name, got, f, c.want)
		}
	}
}

// TestReduce covers R7.2.
func TestReduce(t *testing.T) {
	done, free := lifting(), lifting()
	done.Goal = ints(bottom)
	free.Goal = nil
	shortest := ints(enter, up, leave, down)
	for _, c := range []struct {
		name string
		task api.Task
		plan []int
		want []int
	}{
		{"nothing to leave out", lifting(), shortest, shortest},
		{"empty solution", done, nil, nil},
		{"empty solution of the zero task", api.Task{}, ints(), nil},
		{"goal that is true initially", done, ints(up, down), nil},
		{"no goal", free, ints(enter, up, leave, down), nil},
		{"longest solution", lifting(), longest(), shortest},
		{"step that adds what is true already", api.Task{Facts: 1, Init: ints(0), Goal: ints(0), Operators: []api.Operator{{Add: ints(0)}}}, ints(0), nil},
		{"fact that is added twice", chain(1), ints(0, 0), ints(0)},
		{"steps that do nothing", chain(3), ints(3, 3, 0, 3, 1, 1, 3, 3, 3, 2, 3), ints(0, 1, 2)},
		// Both halves of a detour are left out together: the second one is not applicable without the first.
		{"detour in the beginning", lifting(), ints(up, down, enter, up, leave, down), shortest},
		{"detours everywhere", lifting(), ints(up, down, enter, leaveBelow, enter, up, down, up, leave, down, up, down), shortest},
		{"detour around another one", lifting(), ints(enter, up, down, leaveBelow, enter, up, leave, down), shortest},
		// Without the first enter, leaveBelow is left out, and then the second enter is applicable.
		{"same operator again", lifting(), ints(enter, leaveBelow, enter, up, leave, down), shortest},
		// Leaving out operator 0 fails while operator 1 is there, and it is not tried again when operators 1 and 2 have been left out.
		{"earlier step that is unnecessary only afterwards", late(), ints(0, 1, 2), ints(0)},
		// If operator 1 comes first, it is left out before operator 0 is tried.
		{"later step that is unnecessary afterwards", late(), ints(1, 0, 2), nil},
		// The first one of two ways is left out, although the second one has more steps.
		{"longer way that comes later", api.Task{Facts: 2, Goal: ints(1), Operators: []api.Operator{{Add: ints(1)}, {Add: ints(0)}, {Pre: ints(0), Add: ints(1)}}}, ints(0, 1, 2), ints(1, 2)},
	} {
		if got, f := plans.Reduce(c.task, c.plan); f != fault(0, 0) || !slices.Equal(got, c.want) {
			t.Errorf("%s: got %v, %v, want %v", c.name, got, f, c.want)
		}
	}
}

// TestMinimal covers R7.3.
func TestMinimal(t *testing.T) {
	done, free := lifting(), lifting()
	done.Goal = ints(bottom)
	free.Goal = nil
	for _, c := range []struct {
		name string
		task api.Task
		plan []int
		want bool
	}{
		{"empty solution", done, nil, true},
		{"empty solution without a goal", free, nil, true},
		{"empty solution of the zero task", api.Task{}, ints(), true},
		{"one step that is necessary", chain(1), ints(0), true},
		{"one step that is not", free, ints(up), false},
		{"all steps necessary", lifting(), ints(enter, up, leave, down), true},
		{"as many steps as permitted, all necessary", chain(12), upTo(12), true},
		{"as many steps as permitted, the first one unnecessary", chain(11), append(ints(11), upTo(11)...), false},
		{"as many steps as permitted, the last one unnecessary", chain(11), upTo(12), false},
		{"as many steps as permitted, one in between unnecessary", chain(11), slices.Insert(upTo(11), 5, 11), false},
		{"as many steps as permitted, none necessary", free, slices.Repeat(ints(up, down), 6), false},
		{"fact that is added twice", chain(2), ints(0, 0, 1), false},
		// No single step can be left out.
		{"two steps that are unnecessary together", done, ints(up, down), false},
		{"steps apart that are unnecessary together", lifting(), ints(up, down, enter, up, leave, down), false},
		{"what Reduce leaves", late(), ints(0), false},
		{"two ways", late(), ints(0, 1, 2), false},
		// Another plan has fewer steps, but it is not a part of this one.
		{"shorter plan that is not a part", api.Task{Facts: 2, Goal: ints(1), Operators: []api.Operator{{Add: ints(1)}, {Add: ints(0)}, {Pre: ints(0), Add: ints(1)}}}, ints(1, 2), true},
		// The same steps in another order need not all be there.
		{"shorter plan in another order", api.Task{Facts: 2, Init: ints(0), Goal: ints(1), Operators: []api.Operator{{Pre: ints(0), Add: ints(1)}, {Add: ints(0), Del: ints(1)}}}, ints(1, 0), false},
	} {
		if got, f := plans.Minimal(c.task, c.plan); f != fault(0, 0) || got != c.want {
			t.Errorf("%s: got %v, %v, want %v", c.name, got, f, c.want)
		}
	}
}
