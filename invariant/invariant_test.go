package invariant_test

import (
	"slices"
	"testing"

	"helmsman/api"
	"helmsman/invariant"
)

func fault(code, index int) api.Fault { return api.Fault{Code: code, Index: index} }

func ints(l ...int) []int { return l }

// upTo returns the numbers from 0 to below n.
func upTo(n int) []int {
	var l []int
	for i := range n {
		l = append(l, i)
	}
	return l
}

// same reports whether two lists of groups are the same.
func same(a, b [][]int) bool { return slices.EqualFunc(a, b, slices.Equal[[]int]) }

// Facts of the task below: the ship is at the first quay, at sea, or at the second quay, and the crate is there, on board, or there.
const first, sea, second, crateFirst, aboard, crateSecond = 0, 1, 2, 3, 4, 5

// shipping returns a valid task.
func shipping() api.Task {
	return api.Task{
		Facts: 6,
		Init:  ints(first, crateFirst),
		Goal:  ints(first, crateSecond),
		Operators: []api.Operator{
			{Pre: ints(first), Add: ints(sea), Del: ints(first), Cost: 1},
			{Pre: ints(second), Add: ints(sea), Del: ints(second), Cost: 1},
			{Pre: ints(sea), Add: ints(first), Del: ints(sea), Cost: 2},
			{Pre: ints(sea), Add: ints(second), Del: ints(sea), Cost: 2},
			{Pre: ints(first, crateFirst), Add: ints(aboard), Del: ints(crateFirst), Cost: 3},
			{Pre: ints(second, aboard), Add: ints(crateSecond), Del: ints(aboard), Cost: 3},
		},
	}
}

// with returns a task over the facts 0 to n-1 in whose initial state nothing is true.
func with(n int, operators ...api.Operator) api.Task {
	return api.Task{Facts: n, Operators: operators}
}

// from returns a task with another initial state.
func from(task api.Task, init ...int) api.Task {
	task.Init = init
	return task
}

// move returns an operator that makes one fact true instead of another.
func move(from, to int) api.Operator {
	return api.Operator{Pre: ints(from), Add: ints(to), Del: ints(from)}
}

// example is a call of Inductive with its result.
type example struct {
	name  string
	task  api.Task
	group []int
	want  bool
}

func expectAll(t *testing.T, examples []example) {
	t.Helper()
	for _, c := range examples {
		if got, f := invariant.Inductive(c.task, c.group); f != fault(0, 0) || got != c.want {
			t.Errorf("%s: got %v, %v, want %v", c.name, got, f, c.want)
		}
	}
}

// TestInductive covers R10.1 for whole tasks, and for the facts of Init.
func TestInductive(t *testing.T) {
	swapped := shipping()
	swapped.Operators[0], swapped.Operators[5] = api.Operator{Add: ints(sea)}, swapped.Operators[0]
	last := shipping()
	last.Operators[5] = api.Operator{Add: ints(sea)}
	expectAll(t, []example{
		{"empty group of the zero task", api.Task{}, nil, true},
		{"empty group", shipping(), ints(), true},
		{"empty group, operator that makes all true", with(3, api.Operator{Add: ints(0, 1, 2)}), nil, true},
		{"places of the ship", shipping(), ints(first, sea, second), true},
		{"places of the crate", shipping(), ints(crateFirst, aboard, crateSecond), true},
		{"all but one place of the ship", shipping(), ints(first, second), false},
		{"all but another place of the ship", shipping(), ints(first, sea), false},
		{"the first places of the crate", shipping(), ints(crateFirst, aboard), true},
		{"the last places of the crate", shipping(), ints(aboard, crateSecond), false},
		{"one place of each", shipping(), ints(first, crateSecond), false},
		{"everything", shipping(), upTo(6), false},
		{"initial facts", shipping(), ints(first, crateFirst), false},
		{"first operator breaks it", swapped, ints(first, sea, second), false},
		{"first operator does not concern it", swapped, ints(crateFirst, aboard), true},
		{"last operator breaks it", last, ints(first, sea, second), false},

		{"no operators, nothing true initially", with(3), upTo(3), true},
		{"no operators, one fact true initially", from(with(3), 1), upTo(3), true},
		{"no operators, two facts true initially", from(with(3), 0, 2), upTo(3), false},
		{"no operators, all facts true initially", from(with(3), 0, 1, 2), upTo(3), false},
		{"one initial fact is in the group", from(with(3), 0, 2), ints(1, 2), true},
		{"no initial fact is in the group", from(with(4), 0, 2), ints(1, 3), true},
		{"two initial facts, then a single one", from(with(3, api.Operator{Del: ints(0)}), 0, 1), ints(0, 1), false},
		{"single fact, true initially", from(with(1), 0), ints(0), true},
		{"single fact, added", with(1, api.Operator{Add: ints(0)}), ints(0), true},
		{"goal with two facts of the group", api.Task{Facts: 2, Goal: ints(0, 1)}, ints(0, 1), true},

		{"facts at the edges", with(api.MaxFacts, move(0, 23), move(23, 0)), ints(0, 23), true},
		{"facts at the edges, not inductive", with(api.MaxFacts, move(0, 23), move(22, 0)), ints(0, 23), false},
		{"all facts", with(api.MaxFacts, move(0, 23), move(23, 11)), upTo(api.MaxFacts), true},
		{"all facts true initially", from(with(api.MaxFacts), upTo(api.MaxFacts)...), upTo(api.MaxFacts), false},
		{"one of as many operators as permitted", with(3, append(slices.Repeat([]api.Operator{move(0, 1)}, api.MaxOperators-1), move(2, 1))...), ints(0, 1), false},
		{"as many operators as permitted", with(3, slices.Repeat([]api.Operator{move(0, 1)}, api.MaxOperators)...), ints(0, 1), true},
	})
}

// TestInductiveOperators covers R10.1 for tasks with a single operator.
func TestInductiveOperators(t *testing.T) {
	one := func(n int, pre, add, del []int) api.Task {
		return with(n, api.Operator{Pre: pre, Add: add, Del: del})
	}
	expectAll(t, []example{
		{"nothing", one(2, nil, nil, nil), ints(0, 1), true},
		{"deletes only", one(3, ints(0), nil, ints(1)), upTo(3), true},
		{"needs and adds what is outside", one(4, ints(2), ints(3), ints(2)), ints(0, 1), true},

		// No precondition is in the group, so any fact of it can be true before.
		{"adds one", one(2, nil, ints(0), nil), ints(0, 1), false},
		{"adds one, deletes the other one", one(2, nil, ints(0), ints(1)), ints(0, 1), true},
		{"adds one, deletes all other ones", one(4, nil, ints(2), ints(0, 1, 3)), upTo(4), true},
		{"adds one, deletes all other ones but the first", one(4, nil, ints(2), ints(1, 3)), upTo(4), false},
		{"adds one, deletes all other ones but the last", one(4, nil, ints(2), ints(0, 1)), upTo(4), false},
		{"adds one, deletes all other ones of the group", one(5, nil, ints(2), ints(0)), ints(0, 2), true},
		{"adds two", one(2, nil, ints(0, 1), nil), ints(0, 1), false},
		{"adds two, deletes the other ones", one(4, nil, ints(0, 1), ints(2, 3)), upTo(4), false},
		{"adds one of the group and one outside", one(3, nil, ints(0, 2), ints(1)), ints(0, 1), true},
		{"adds two outside", one(4, nil, ints(2, 3), nil), ints(0, 1), true},
		{"needs one outside, adds one", one(3, ints(2), ints(0), nil), ints(0, 1), false},
		{"needs and deletes one outside, adds one", one(3, ints(2), ints(0), ints(2)), ints(0, 1), false},
		{"needs one outside, adds one, deletes the other one", one(3, ints(2), ints(0), ints(1)), ints(0, 1), true},

		// One precondition is in the group, so it is the fact that is true before.
		{"needs one, adds one", one(2, ints(0), ints(1), nil), ints(0, 1), false},
		{"needs and deletes one, adds one", one(2, ints(0), ints(1), ints(0)), ints(0, 1), true},
		{"needs one, deletes another one, adds a third", one(3, ints(0), ints(1), ints(2)), upTo(3), false},
		{"needs and deletes one, adds one, a third remains", one(3, ints(0), ints(1), ints(0)), upTo(3), true},
		{"needs and adds the same", one(2, ints(0), ints(0), nil), ints(0, 1), true},
		{"needs and adds the same, deletes the other one", one(2, ints(0), ints(0), ints(1)), ints(0, 1), true},
		{"needs and adds the same, and adds one more", one(2, ints(0), ints(0, 1), nil), ints(0, 1), false},
		{"needs and deletes one, adds two", one(3, ints(0), ints(1, 2), ints(0)), upTo(3), false},
		{"needs one, adds nothing", one(2, ints(0), nil, nil), ints(0, 1), true},
		{"needs one and one outside, adds one", one(3, ints(0, 2), ints(1), ints(0)), ints(0, 1), true},
		{"needs one and one outside, deletes the one outside", one(3, ints(0, 2), ints(1), ints(2)), ints(0, 1), false},

		// Two preconditions are in the group, so the operator is not applicable.
		{"needs two", one(3, ints(0, 1), nil, nil), upTo(3), true},
		{"needs two, adds a third", one(3, ints(0, 1), ints(2), nil), upTo(3), true},
		{"needs two, adds them", one(2, ints(0, 1), ints(0, 1), nil), ints(0, 1), true},
		{"needs two and deletes them, adds two", one(4, ints(0, 1), ints(2, 3), ints(0, 1)), upTo(4), true},
		{"needs all, adds all", one(4, upTo(4), upTo(4), nil), upTo(4), true},
		{"needs two outside, adds two", one(4, ints(2, 3), ints(0, 1), nil), ints(0, 1), false},

		// What is reached does not matter.
		{"needs what is never true", one(3, ints(2), ints(0, 1), nil), ints(0, 1), false},
		{"needs two that are never true together", with(4, move(2, 3), move(3, 2), api.Operator{Pre: ints(2, 3), Add: ints(0, 1)}), ints(0, 1), false},
	})
}

// TestFind covers R10.2.
func TestFind(t *testing.T) {
	ring := func(n int) api.Task {
		task := api.Task{Facts: n, Init: ints(0)}
		for i := range n {
			task.Operators = append(task.Operators, move(i, (i+1)%n))
		}
		return task
	}
	for _, c := range []struct {
		name string
		task api.Task
		want [][]int
	}{
		{"zero task", api.Task{}, nil},
		{"single fact", with(1), nil},
		{"places", shipping(), [][]int{{first, sea, second}, {crateFirst, aboard, crateSecond}}},
		{"each operator adds one fact and deletes its precondition", ring(5), [][]int{{0, 1, 2, 3, 4}}},
		{"the most facts", ring(10), [][]int{upTo(10)}},
		{"two facts that exclude each other", ring(2), [][]int{{0, 1}}},
		{"two facts true initially", from(ring(5), 0, 1), nil},
		{"nothing true initially", from(ring(5)), [][]int{{0, 1, 2, 3, 4}}},
		{"no operators", with(3), [][]int{{0, 1, 2}}},
		{"no operators, two facts true initially", from(with(4), 1, 2), [][]int{{0, 1, 3}, {0, 2, 3}}},
		{"no operators, the most facts true initially", from(with(10), upTo(10)...), nil},
		{"no operators, all but one fact true initially", from(with(3), 0, 1), [][]int{{0, 2}, {1, 2}}},
		{"each operator adds a fact", with(3, api.Operator{Add: ints(0)}, api.Operator{Add: ints(1)}, api.Operator{Add: ints(2)}), nil},

		// {0, 1} is inductive, as nothing adds its facts, but neither 2 nor 3 alone can be added to it.
		{"only more than one fact can be added", with(4, move(2, 3), move(3, 2)), [][]int{{0, 1, 2, 3}}},
		{"only all facts can be added", with(10, append(ring(10).Operators[2:9], move(9, 2))...), [][]int{upTo(10)}},

		// Lists are compared, neither as numbers nor by their lengths.
		{"the first fact decides", with(4, api.Operator{Add: ints(1), Del: ints(2)}, api.Operator{Add: ints(0), Del: ints(3)}), [][]int{{0, 3}, {1, 2}, {2, 3}}},
		{"the second fact decides", with(5, api.Operator{Add: ints(2), Del: ints(0)}, api.Operator{Add: ints(3), Del: ints(4)}), [][]int{{0, 1, 4}, {0, 2}, {3, 4}}},
		{"the last fact decides", from(with(4), 2, 3), [][]int{{0, 1, 2}, {0, 1, 3}}},
		{"no operators, three facts true initially", from(with(5), 0, 2, 4), [][]int{{0, 1, 3}, {1, 2, 3}, {1, 3, 4}}},
	} {
		if got, f := invariant.Find(c.task); f != fault(0, 0) || !same(got, c.want) {
			t.Errorf("%s: got %v, %v, want %v", c.name, got, f, c.want)
		}
	}
}
