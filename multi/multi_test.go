package multi_test

import (
	"slices"
	"testing"

	"helmsman/api"
	"helmsman/multi"
)

func fault(code, index int) api.Fault { return api.Fault{Code: code, Index: index} }

func ints(l ...int) []int { return l }

func repeat[E any](e E, n int) []E { return slices.Repeat([]E{e}, n) }

// upTo returns the numbers from 0 to below n.
func upTo(n int) []int {
	var l []int
	for i := range n {
		l = append(l, i)
	}
	return l
}

// is returns a list of assignments from pairs of a variable and a value.
func is(l ...[2]int) []api.Assign {
	var assigns []api.Assign
	for _, p := range l {
		assigns = append(assigns, api.Assign{Var: p[0], Value: p[1]})
	}
	return assigns
}

// Variables of the task below: the floor of a lift, whether its door is open, the floor of a guest, the house, which is always the same, and the last floor that was left, with floors that the lift does not reach.
const floor, door, guest, house, left = 0, 1, 2, 3, 4

// Values of the door and the guest.
const shut, open, inside = 0, 1, 3

// Operators of the task below.
const raise, unlock, lock, enter, leave, lower, pause = 0, 1, 2, 3, 4, 5, 6

// lift returns a valid task, which ride solves.
func lift() api.MultiTask {
	return api.MultiTask{
		Sizes: ints(3, 2, 4, 1, 6),
		Init:  ints(0, shut, 0, 0, 5),
		Goal:  is([2]int{door, shut}, [2]int{guest, 2}),
		Operators: []api.MultiOperator{
			raise:  {Pre: is([2]int{floor, 0}, [2]int{door, shut}), Post: is([2]int{floor, 2}, [2]int{left, 0}), Cost: 7},
			unlock: {Pre: is([2]int{door, shut}), Post: is([2]int{door, open}), Cost: 1},
			lock:   {Post: is([2]int{door, shut}), Cost: 2},
			enter:  {Pre: is([2]int{floor, 0}, [2]int{door, open}, [2]int{guest, 0}), Post: is([2]int{guest, inside}), Cost: 0},
			leave:  {Pre: is([2]int{floor, 2}, [2]int{door, open}, [2]int{guest, inside}), Post: is([2]int{guest, 2}), Cost: 20},
			lower:  {Pre: is([2]int{floor, 2}, [2]int{door, shut}), Post: is([2]int{floor, 1}, [2]int{door, open}, [2]int{house, 0}, [2]int{left, 2}), Cost: api.MaxCost},
			pause:  {},
		},
	}
}

// ride returns a solution of lift that costs 33.
func ride() []int { return ints(unlock, enter, lock, raise, unlock, leave, lock) }

// idle returns a task with one variable and operators that do nothing.
func idle(operators int) api.MultiTask {
	return api.MultiTask{Sizes: ints(1), Init: ints(0), Operators: make([]api.MultiOperator, operators)}
}

// TestApplicable covers R9.2.
func TestApplicable(t *testing.T) {
	for _, c := range []struct {
		name string
		task api.MultiTask
		s    []int
		want []int
	}{
		{"initial state", lift(), ints(0, shut, 0, 0, 5), ints(raise, unlock, lock, pause)},
		{"other state", lift(), ints(0, open, 0, 0, 5), ints(lock, enter, pause)},
		{"another value of the first variable", lift(), ints(1, open, 0, 0, 5), ints(lock, pause)},
		{"another value of the last variable of Pre", lift(), ints(0, open, 1, 0, 5), ints(lock, pause)},
		{"a variable that is in no Pre", lift(), ints(0, open, 0, 0, 0), ints(lock, enter, pause)},
		{"all values at their greatest", lift(), ints(2, open, inside, 0, 5), ints(lock, leave, pause)},
		{"door shut there", lift(), ints(2, shut, inside, 0, 5), ints(unlock, lock, lower, pause)},
		{"example", idle(1), ints(0), ints(0)},
		{"as many operators as permitted", idle(api.MaxOperators), ints(0), upTo(api.MaxOperators)},
		{"no operators", idle(0), ints(0), nil},
		{"none of the operators", api.MultiTask{Sizes: ints(2), Init: ints(0), Operators: repeat(api.MultiOperator{Pre: is([2]int{0, 0})}, 3)}, ints(1), nil},
		{"all of them", api.MultiTask{Sizes: ints(2), Init: ints(1), Operators: repeat(api.MultiOperator{Pre: is([2]int{0, 0})}, 3)}, ints(0), ints(0, 1, 2)},
	} {
		if got, f := multi.Applicable(c.task, c.s); f != fault(0, 0) || !slices.Equal(got, c.want) {
			t.Errorf("%s: got %v, %v, want %v", c.name, got, f, c.want)
		}
	}
}

// TestApply covers R9.3.
func TestApply(t *testing.T) {
	example := api.MultiTask{Sizes: ints(2, 3), Init: ints(0, 0), Operators: []api.MultiOperator{{Post: is([2]int{0, 1})}}}
	none := fault(0, 0)
	for _, c := range []struct {
		name  string
		task  api.MultiTask
		s     []int
		op    int
		want  []int
		fault api.Fault
	}{
		{"example", example, ints(0, 2), 0, ints(1, 2), none},
		{"example where the value is there before", example, ints(1, 2), 0, ints(1, 2), none},
		{"Pre and Post of one variable", lift(), ints(2, shut, 1, 0, 3), unlock, ints(2, open, 1, 0, 3), none},
		{"without that Pre", lift(), ints(2, open, 1, 0, 3), unlock, nil, fault(api.ErrState, unlock)},
		{"Post of a variable that is not in Pre", lift(), ints(0, shut, 2, 0, 5), raise, ints(2, shut, 2, 0, 0), none},
		{"Pre of several variables", lift(), ints(2, open, inside, 0, 1), leave, ints(2, open, 2, 0, 1), none},
		{"the first of them false", lift(), ints(1, open, inside, 0, 1), leave, nil, fault(api.ErrState, leave)},
		{"the second of them false", lift(), ints(2, shut, inside, 0, 1), leave, nil, fault(api.ErrState, leave)},
		{"the last of them false", lift(), ints(2, open, 2, 0, 1), leave, nil, fault(api.ErrState, leave)},
		{"Post of nearly all variables", lift(), ints(2, shut, inside, 0, 5), lower, ints(1, open, inside, 0, 2), none},
		{"no Pre", lift(), ints(1, open, 0, 0, 5), lock, ints(1, shut, 0, 0, 5), none},
		{"no Post", lift(), ints(1, open, 0, 0, 5), pause, ints(1, open, 0, 0, 5), none},
		{"only value of a variable", idle(1), ints(0), 0, ints(0), none},
		{"first operator not applicable", lift(), ints(1, shut, 0, 0, 5), raise, nil, fault(api.ErrState, raise)},
	} {
		if got, f := multi.Apply(c.task, c.s, c.op); f != c.fault || !slices.Equal(got, c.want) {
			t.Errorf("%s: got %v, %v, want %v, %v", c.name, got, f, c.want, c.fault)
		}
	}
}

// counter returns a task whose only solutions count from 0 up to the last value of each of two variables, like a number with two digits.
func counter() api.MultiTask {
	m := api.MultiTask{Sizes: ints(6, 6), Init: ints(0, 0), Goal: is([2]int{0, 5}, [2]int{1, 5})}
	for x := range 5 {
		m.Operators = append(m.Operators,
			api.MultiOperator{Pre: is([2]int{1, x}), Post: is([2]int{1, x + 1}), Cost: 1},
			api.MultiOperator{Pre: is([2]int{0, x}, [2]int{1, 5}), Post: is([2]int{0, x + 1}, [2]int{1, 0}), Cost: 10})
	}
	return m
}

// count returns the solution of counter.
func count() []int {
	var plan []int
	for x := range 6 {
		plan = append(plan, 0, 2, 4, 6, 8)
		if x < 5 {
			plan = append(plan, 2*x+1)
		}
	}
	return plan
}

// TestSolves covers R9.4.
func TestSolves(t *testing.T) {
	there, free := lift(), lift()
	there.Init, free.Goal = ints(2, shut, 2, 0, 0), nil
	nearly := lift()
	nearly.Init = ints(2, open, 2, 0, 0)
	for _, c := range []struct {
		name string
		task api.MultiTask
		plan []int
		want bool
	}{
		{"solution", lift(), ride(), true},
		{"solution with steps without effect", lift(), slices.Concat(ints(pause, lock), ride(), ints(lock, pause)), true},
		{"empty plan", lift(), nil, false},
		{"empty plan where Init has the values of Goal", there, nil, true},
		{"empty plan where Init has one of them only", nearly, nil, false},
		{"one step from there", nearly, ints(lock), true},
		{"first variable of the goal not reached", lift(), ride()[:6], false},
		{"second variable of the goal not reached", lift(), ints(unlock, enter, lock, raise), false},
		{"goal reached only in between", lift(), append(ride(), unlock), false},
		{"goal reached again", lift(), append(ride(), unlock, lock), true},
		{"first step not applicable", lift(), append(ints(enter), ride()...), false},
		{"step in between not applicable", lift(), slices.Insert(ride(), 3, leave), false},
		{"last step not applicable", lift(), append(ride(), leave), false},
		{"empty plan without a goal", free, nil, true},
		{"steps without a goal", free, ints(raise, lower, lock), true},
		{"no goal, but a step that is not applicable", free, ints(raise, raise), false},
		{"no goal, and a step that becomes applicable", free, ints(unlock, enter), true},
		{"many steps", counter(), count(), true},
		{"many steps without the last one", counter(), count()[:34], false},
		{"as many steps as permitted", idle(1), make([]int, api.MaxPlan), true},
		{"last one of as many steps as permitted", api.MultiTask{Sizes: ints(2), Init: ints(0), Goal: is([2]int{0, 1}), Operators: []api.MultiOperator{{}, {Post: is([2]int{0, 1})}}}, append(make([]int, api.MaxPlan-1), 1), true},
	} {
		if got, f := multi.Solves(c.task, c.plan); f != fault(0, 0) || got != c.want {
			t.Errorf("%s: got %v, %v, want %v", c.name, got, f, c.want)
		}
	}
}

// TestCost covers R9.5.
func TestCost(t *testing.T) {
	dear := api.MultiTask{Sizes: ints(1), Init: ints(0), Operators: []api.MultiOperator{{Cost: api.MaxCost}}}
	for _, c := range []struct {
		name string
		task api.MultiTask
		plan []int
		want int
	}{
		{"empty plan", lift(), nil, 0},
		{"empty plan without operators", idle(0), nil, 0},
		{"solution", lift(), ride(), 33},
		{"one step", lift(), ints(leave), 20},
		{"steps without a cost", lift(), ints(enter, pause, enter), 0},
		{"steps that are not applicable", lift(), ints(lower, leave, lower), 220},
		{"the same step again", lift(), ints(lock, lock, lock), 6},
		{"many steps", counter(), count(), 80},
		{"greatest cost", dear, make([]int, api.MaxPlan), api.MaxPlan * api.MaxCost},
	} {
		if got, f := multi.Cost(c.task, c.plan); f != fault(0, 0) || got != c.want {
			t.Errorf("%s: got %v, %v, want %v", c.name, got, f, c.want)
		}
	}
}
