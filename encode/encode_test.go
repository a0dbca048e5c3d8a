package encode_test

import (
	"fmt"
	"slices"
	"testing"

	"helmsman/api"
	"helmsman/encode"
)

func fault(code, index int) api.Fault { return api.Fault{Code: code, Index: index} }

func ints(l ...int) []int { return l }

// lists returns its arguments as a list, for example of groups.
func lists(l ...[]int) [][]int { return l }

// upTo returns the numbers from 0 to below n.
func upTo(n int) []int {
	var l []int
	for i := range n {
		l = append(l, i)
	}
	return l
}

// same reports whether two lists of lists are the same.
func same(a, b [][]int) bool { return slices.EqualFunc(a, b, slices.Equal[[]int]) }

// Facts of the task below: the ship is at the first quay, at sea, or at the second quay, and the crate is there, on board, or there.
const first, sea, second, crateFirst, aboard, crateSecond = 0, 1, 2, 3, 4, 5

// shipping returns a valid task.
func shipping() api.Task {
	return api.Task{
		Facts: 6,
		Init:  ints(first, crateFirst),
		Goal:  ints(first, crateSecond),
		Operators: []api.Operator{
			{Pre: ints(first), Add: ints(sea), Del: ints(first), Cost: 1},
			{Pre: ints(second), Add: ints(sea), Del: ints(second), Cost: 1},
			{Pre: ints(sea), Add: ints(first), Del: ints(sea), Cost: 2},
			{Pre: ints(sea), Add: ints(second), Del: ints(sea), Cost: 2},
			{Pre: ints(first, crateFirst), Add: ints(aboard), Del: ints(crateFirst), Cost: 3},
			{Pre: ints(second, aboard), Add: ints(crateSecond), Del: ints(aboard), Cost: 3},
		},
	}
}

// places returns the groups of shipping: the places of the ship, and those of the crate.
func places() [][]int {
	return lists(ints(first, sea, second), ints(crateFirst, aboard, crateSecond))
}

// with returns a task over the facts 0 to n-1 in whose initial state nothing is true.
func with(n int, operators ...api.Operator) api.Task {
	return api.Task{Facts: n, Operators: operators}
}

// from returns a task with another initial state.
func from(task api.Task, init ...int) api.Task {
	task.Init = init
	return task
}

// to returns a task with another goal.
func to(task api.Task, goal ...int) api.Task {
	task.Goal = goal
	return task
}

// TestCover covers R11.1.
func TestCover(t *testing.T) {
	for _, c := range []struct {
		name   string
		task   api.Task
		groups [][]int
		want   [][]int
	}{
		{"zero task", api.Task{}, nil, nil},
		{"zero task, empty groups", api.Task{}, lists(nil, ints()), nil},
		{"no groups", with(3), nil, lists(ints(0), ints(1), ints(2))},
		{"no groups, most facts", with(api.MaxFacts), nil, slices.Collect(slices.Chunk(upTo(api.MaxFacts), 1))},
		{"one group with all facts", with(3), lists(upTo(3)), lists(upTo(3))},
		{"one group with the most facts", with(api.MaxFacts), lists(upTo(api.MaxFacts)), lists(upTo(api.MaxFacts))},
		{"as many groups as permitted", with(api.MaxFacts), slices.Collect(slices.Chunk(upTo(api.MaxFacts), 1)), slices.Collect(slices.Chunk(upTo(api.MaxFacts), 1))},
		{"places", shipping(), places(), places()},
		{"places of the crate first", shipping(), lists(places()[1], places()[0]), lists(places()[1], places()[0])},
		{"places of the crate only", shipping(), lists(places()[1]), lists(places()[1], ints(first), ints(sea), ints(second))},
		{"single facts", with(3), lists(ints(2), ints(0)), lists(ints(2), ints(0), ints(1))},

		{"empty group", with(2), lists(nil), lists(ints(0), ints(1))},
		{"empty group between others", with(4), lists(ints(2, 3), ints(), ints(0, 1)), lists(ints(2, 3), ints(0, 1))},
		{"facts before, between and after a group", with(5), lists(ints(1, 3)), lists(ints(1, 3), ints(0), ints(2), ints(4))},
		{"facts in several groups belong to the first one", with(4), lists(ints(1, 2), ints(0, 1, 3)), lists(ints(1, 2), ints(0, 3))},
		{"the same groups in another order", with(4), lists(ints(0, 1, 3), ints(1, 2)), lists(ints(0, 1, 3), ints(2))},
		{"the same group twice", with(3), lists(ints(0, 2), ints(0, 2)), lists(ints(0, 2), ints(1))},
		{"group within an earlier one", with(3), lists(ints(0, 1, 2), ints(0, 1)), lists(ints(0, 1, 2))},
		{"group that contains an earlier one", with(3), lists(ints(0, 1), ints(0, 1, 2)), lists(ints(0, 1), ints(2))},
		{"group whose facts are in two earlier ones", with(5), lists(ints(0, 1), ints(2, 3), ints(1, 2), ints(1, 2, 4)), lists(ints(0, 1), ints(2, 3), ints(4))},
		{"last fact only", with(api.MaxFacts), lists(upTo(23), ints(22, 23)), lists(upTo(23), ints(23))},
		{"goal with two facts of a class", to(with(2), 0, 1), lists(ints(0, 1)), lists(ints(0, 1))},
	} {
		if got, f := encode.Cover(c.task, c.groups); f != fault(0, 0) || !same(got, c.want) {
			t.Errorf("%s: got %v, %v, want %v", c.name, got, f, c.want)
		}
	}
}

// TestState covers R11.2.
func TestState(t *testing.T) {
	conflict := fault(api.ErrConflict, -9)
	for _, c := range []struct {
		name   string
		task   api.Task
		groups [][]int
		s      []int
		want   []int
		fault  api.Fault
	}{
		{"zero task", api.Task{}, nil, nil, nil, api.Fault{}},
		{"no groups, nothing true", with(3), nil, nil, ints(1, 1, 1), api.Fault{}},
		{"no groups, one fact true", with(3), nil, ints(1), ints(1, 0, 1), api.Fault{}},
		{"no groups, all facts true", with(3), nil, upTo(3), ints(0, 0, 0), api.Fault{}},
		{"one class, nothing true", with(3), lists(upTo(3)), nil, ints(3), api.Fault{}},
		{"one class, first fact true", with(3), lists(upTo(3)), ints(0), ints(0), api.Fault{}},
		{"one class, second fact true", with(3), lists(upTo(3)), ints(1), ints(1), api.Fault{}},
		{"one class, last fact true", with(3), lists(upTo(3)), ints(2), ints(2), api.Fault{}},
		{"one class, first two facts true", with(3), lists(upTo(3)), ints(0, 1), nil, conflict},
		{"one class, last two facts true", with(3), lists(upTo(3)), ints(1, 2), nil, conflict},
		{"one class, all facts true", with(3), lists(upTo(3)), upTo(3), nil, conflict},
		{"most facts, nothing true", with(api.MaxFacts), lists(upTo(api.MaxFacts)), nil, ints(24), api.Fault{}},
		{"most facts, last one true", with(api.MaxFacts), lists(upTo(api.MaxFacts)), ints(23), ints(23), api.Fault{}},
		{"most facts, first and last one true", with(api.MaxFacts), lists(upTo(api.MaxFacts)), ints(0, 23), nil, conflict},

		{"places initially", shipping(), places(), shipping().Init, ints(0, 0), api.Fault{}},
		{"places of the goal", shipping(), places(), shipping().Goal, ints(0, 2), api.Fault{}},
		{"no place of the ship", shipping(), places(), ints(aboard), ints(3, 1), api.Fault{}},
		{"no place of the crate", shipping(), places(), ints(second), ints(2, 3), api.Fault{}},
		{"two places of the ship", shipping(), places(), ints(sea, second, aboard), nil, conflict},
		{"two places of the crate", shipping(), places(), ints(sea, crateFirst, crateSecond), nil, conflict},
		{"values of classes in another order", shipping(), lists(places()[1], places()[0]), ints(second, aboard), ints(1, 2), api.Fault{}},
		{"positions are those in the class", with(6), lists(ints(1, 3, 5)), ints(2, 5), ints(2, 1, 0, 1), api.Fault{}},

		// The facts 0, 1 and 2 are in a group and in the classes [1] and [0 2].
		{"two facts of a group in different classes", with(3), lists(ints(1), upTo(3)), ints(1, 2), ints(0, 1), api.Fault{}},
		{"two facts of a group in the same class", with(3), lists(ints(1), upTo(3)), ints(0, 2), nil, conflict},
	} {
		if got, f := encode.State(c.task, c.groups, c.s); f != c.fault || !slices.Equal(got, c.want) {
			t.Errorf("%s: got %v, %v, want %v, %v", c.name, got, f, c.want, c.fault)
		}
	}
}

// assigns returns the values of the variables 0, 1 and so on, without those that are -1.
func assigns(values ...int) []api.Assign {
	var l []api.Assign
	for v, value := range values {
		if value >= 0 {
			l = append(l, api.Assign{Var: v, Value: value})
		}
	}
	return l
}

// multiple returns an operator of a multi-valued task.
func multiple(pre, post []api.Assign, cost int) api.MultiOperator {
	return api.MultiOperator{Pre: pre, Post: post, Cost: cost}
}

// TestMulti covers R11.3 for whole tasks.
func TestMulti(t *testing.T) {
	ferry := to(from(with(3, api.Operator{Pre: ints(2), Del: ints(0), Cost: 7}, api.Operator{Add: ints(0, 2), Del: ints(1), Cost: api.MaxCost}), 1), 0, 2)
	for _, c := range []struct {
		name    string
		task    api.Task
		groups  [][]int
		want    api.MultiTask
		origins []int
	}{
		{"single fact", with(1), nil, api.MultiTask{Sizes: ints(2), Init: ints(1)}, nil},
		{"single fact, true initially and in the end", to(from(with(1), 0), 0), nil, api.MultiTask{Sizes: ints(2), Init: ints(0), Goal: assigns(0)}, nil},
		{"places", shipping(), places(), api.MultiTask{
			Sizes: ints(4, 4),
			Init:  ints(0, 0),
			Goal:  assigns(0, 2),
			Operators: []api.MultiOperator{
				multiple(assigns(0), assigns(1), 1),
				multiple(assigns(2), assigns(1), 1),
				multiple(assigns(1), assigns(0), 2),
				multiple(assigns(1), assigns(2), 2),
				multiple(assigns(0, 0), assigns(-1, 1), 3),
				multiple(assigns(2, 1), assigns(-1, 2), 3),
			},
		}, upTo(6)},
		{"places of the crate first", to(from(shipping(), crateSecond), second), lists(places()[1]), api.MultiTask{
			Sizes: ints(4, 2, 2, 2),
			Init:  ints(2, 1, 1, 1),
			Goal:  assigns(-1, -1, -1, 0),
			Operators: []api.MultiOperator{
				multiple(assigns(-1, 0), assigns(-1, 1, 0), 1),
				multiple(assigns(-1, -1, -1, 0), assigns(-1, -1, 0, 1), 1),
				multiple(assigns(-1, -1, 0), assigns(-1, 0, 1), 2),
				multiple(assigns(-1, -1, 0), assigns(-1, -1, 1, 0), 2),
				multiple(assigns(0, 0), assigns(1), 3),
				multiple(assigns(1, -1, -1, 0), assigns(2), 3),
			},
		}, upTo(6)},
		{"several operators from one", ferry, lists(ints(0, 1)), api.MultiTask{
			Sizes: ints(3, 2),
			Init:  ints(1, 1),
			Goal:  assigns(0, 0),
			Operators: []api.MultiOperator{
				multiple(assigns(0, 0), assigns(2), 7),
				multiple(assigns(1, 0), nil, 7),
				multiple(assigns(2, 0), nil, 7),
				multiple(nil, assigns(0, 0), api.MaxCost),
			},
		}, ints(0, 0, 0, 1)},
	} {
		got, origins, f := encode.Multi(c.task, c.groups)
		if f != fault(0, 0) || fmt.Sprint(got) != fmt.Sprint(c.want) || !slices.Equal(origins, c.origins) {
			t.Errorf("%s: got %v, %v, %v, want %v, %v", c.name, got, origins, f, c.want, c.origins)
		}
	}
}

// operatorExample is an operator with the ones that are made from it.
type operatorExample struct {
	name          string
	pre, add, del []int
	want          []api.MultiOperator
}

// expectOperators calls Multi for tasks with a single operator.
func expectOperators(t *testing.T, facts int, groups [][]int, examples []operatorExample) {
	t.Helper()
	for _, c := range examples {
		task := with(facts, api.Operator{Pre: c.pre, Add: c.add, Del: c.del})
		got, origins, f := encode.Multi(task, groups)
		if f != fault(0, 0) || fmt.Sprint(got.Operators) != fmt.Sprint(c.want) || !slices.Equal(origins, make([]int, len(c.want))) {
			t.Errorf("%s: got %v, %v, %v, want %v", c.name, got.Operators, origins, f, c.want)
		}
	}
}

// one returns a list of a single operator without cost.
func one(pre, post []api.Assign) []api.MultiOperator {
	return []api.MultiOperator{multiple(pre, post, 0)}
}

// TestOperators covers R11.3 for single operators. The classes are [0 1 2], [3 4] and [5].
func TestOperators(t *testing.T) {
	expectOperators(t, 6, lists(upTo(3), ints(3, 4)), []operatorExample{
		{"nothing", nil, nil, nil, one(nil, nil)},
		{"needs one", ints(1), nil, nil, one(assigns(1), nil)},
		{"needs one of each", ints(2, 3, 5), nil, nil, one(assigns(2, 0, 0), nil)},
		{"needs and adds the same", ints(1), ints(1), nil, one(assigns(1), nil)},
		{"needs and adds the same, deletes the others", ints(1), ints(1), ints(0, 2), one(assigns(1), nil)},
		{"needs one, adds another", ints(0), ints(2), ints(0), one(assigns(0), assigns(2))},
		{"needs one, adds another, deletes all but this", ints(1), ints(0), ints(1, 2), one(assigns(1), assigns(0))},
		{"needs and deletes one", ints(1), nil, ints(1), one(assigns(1), assigns(3))},
		{"needs and deletes one, deletes the others", ints(0), nil, upTo(3), one(assigns(0), assigns(3))},
		{"needs one, deletes another", ints(0), nil, ints(1), one(assigns(0), nil)},
		{"needs one, deletes all others", ints(1), nil, ints(0, 2), one(assigns(1), nil)},
		{"adds one, deletes the others", nil, ints(1), ints(0, 2), one(nil, assigns(1))},
		{"adds the fact of a class by itself", nil, ints(5), nil, one(nil, assigns(-1, -1, 0))},
		{"adds one of each, deletes the others", nil, ints(0, 4, 5), ints(1, 2, 3), one(nil, assigns(0, 1, 0))},
		{"needs one of a class, adds one of another", ints(2), ints(3), ints(4), one(assigns(2), assigns(-1, 0))},
		{"needs one of a class, changes another", ints(2, 3), ints(4), ints(3), one(assigns(2, 0), assigns(-1, 1))},

		{"deletes the fact of a class by itself", nil, nil, ints(5), []api.MultiOperator{
			multiple(assigns(-1, -1, 0), assigns(-1, -1, 1), 0),
			multiple(assigns(-1, -1, 1), nil, 0),
		}},
		{"deletes one", nil, nil, ints(1), []api.MultiOperator{
			multiple(assigns(0), nil, 0),
			multiple(assigns(1), assigns(3), 0),
			multiple(assigns(2), nil, 0),
			multiple(assigns(3), nil, 0),
		}},
		{"deletes two", nil, nil, ints(0, 2), []api.MultiOperator{
			multiple(assigns(0), assigns(3), 0),
			multiple(assigns(1), nil, 0),
			multiple(assigns(2), assigns(3), 0),
			multiple(assigns(3), nil, 0),
		}},
		{"deletes all", nil, nil, ints(3, 4), []api.MultiOperator{
			multiple(assigns(-1, 0), assigns(-1, 2), 0),
			multiple(assigns(-1, 1), assigns(-1, 2), 0),
			multiple(assigns(-1, 2), nil, 0),
		}},
		{"deletes of two classes", nil, nil, ints(3, 5), []api.MultiOperator{
			multiple(assigns(-1, 0, 0), assigns(-1, 2, 1), 0),
			multiple(assigns(-1, 0, 1), assigns(-1, 2), 0),
			multiple(assigns(-1, 1, 0), assigns(-1, -1, 1), 0),
			multiple(assigns(-1, 1, 1), nil, 0),
			multiple(assigns(-1, 2, 0), assigns(-1, -1, 1), 0),
			multiple(assigns(-1, 2, 1), nil, 0),
		}},
		{"needs and changes between, deletes of the classes around", ints(3), ints(4), ints(1, 3, 5), []api.MultiOperator{
			multiple(assigns(0, 0, 0), assigns(-1, 1, 1), 0),
			multiple(assigns(0, 0, 1), assigns(-1, 1), 0),
			multiple(assigns(1, 0, 0), assigns(3, 1, 1), 0),
			multiple(assigns(1, 0, 1), assigns(3, 1), 0),
			multiple(assigns(2, 0, 0), assigns(-1, 1, 1), 0),
			multiple(assigns(2, 0, 1), assigns(-1, 1), 0),
			multiple(assigns(3, 0, 0), assigns(-1, 1, 1), 0),
			multiple(assigns(3, 0, 1), assigns(-1, 1), 0),
		}},
		{"adds of one class, deletes of another", nil, ints(0), ints(1, 2, 5), []api.MultiOperator{
			multiple(assigns(-1, -1, 0), assigns(0, -1, 1), 0),
			multiple(assigns(-1, -1, 1), assigns(0), 0),
		}},

		{"needs two of a class", ints(0, 1), nil, nil, nil},
		{"needs all of a class", upTo(3), nil, nil, nil},
		{"needs and deletes two of a class, adds the third", ints(0, 2), ints(1), ints(0, 2), nil},
		{"needs two of the second class", ints(2, 3, 4), nil, nil, nil},
		{"needs two of each class", upTo(6), nil, nil, nil},
		{"needs and adds two of a class", ints(1, 2), ints(1, 2), nil, nil},
		{"needs two of a class, deletes of another", ints(1, 2), nil, ints(5), nil},
	})
}

// TestPartsOfGroups covers R11.3 for operators that are never applicable, as they need two facts of a group, in different classes: they are left out only if they add two facts of a class. The classes are [0 1] and [2 3].
func TestPartsOfGroups(t *testing.T) {
	expectOperators(t, 4, lists(ints(0, 1), upTo(4)), []operatorExample{
		{"needs two", ints(0, 2), nil, nil, one(assigns(0, 0), nil)},
		{"needs two, adds a third, deletes none", ints(0, 2), ints(3), nil, one(assigns(0, 0), assigns(-1, 1))},
		{"needs and adds two", ints(1, 3), ints(1, 3), nil, one(assigns(1, 1), nil)},
		{"needs two, adds one of each class", ints(0, 3), ints(1, 2), ints(0), one(assigns(0, 1), assigns(1, 0))},
		{"needs two, adds two of a class", ints(0, 2), ints(2, 3), nil, nil},
		{"needs two, adds two of a class, deletes both", ints(1, 2), ints(2, 3), ints(1), nil},
		{"needs two, adds three", ints(0, 2), ints(1, 2, 3), ints(0), nil},
	})
}

// TestOrigins covers R11.3 for the operators that are left out, and those that become several, among others.
func TestOrigins(t *testing.T) {
	keep, leave, two, three := api.Operator{Cost: 1}, api.Operator{Pre: ints(0, 1), Cost: 2}, api.Operator{Del: ints(2), Cost: 3}, api.Operator{Del: ints(0), Cost: 4}
	kinds := []api.Operator{keep, leave, two, three}
	numbers := ints(1, 0, 2, 3)
	for _, a := range upTo(4) {
		for _, b := range upTo(4) {
			for _, c := range upTo(4) {
				var want, costs []int
				for i, kind := range ints(a, b, c) {
					want = append(want, slices.Repeat(ints(i), numbers[kind])...)
					costs = append(costs, slices.Repeat(ints(kind+1), numbers[kind])...)
				}
				m, origins, f := encode.Multi(with(3, kinds[a], kinds[b], kinds[c]), lists(ints(0, 1)))
				var got []int
				for _, o := range m.Operators {
					got = append(got, o.Cost)
				}
				if f != fault(0, 0) || !slices.Equal(origins, want) || !slices.Equal(got, costs) {
					t.Errorf("%d, %d, %d: got %v with the costs %v, %v, want %v with %v", a, b, c, origins, got, f, want, costs)
				}
			}
		}
	}
}
