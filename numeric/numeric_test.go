package numeric_test

import (
	"slices"
	"testing"

	"helmsman/api"
	"helmsman/numeric"
)

func fault(code, index int) api.Fault { return api.Fault{Code: code, Index: index} }

func ints(l ...int) []int { return l }

// atLeast returns a comparison that requires a sum of at least bound.
func atLeast(bound int, factors ...int) api.Comparison {
	return api.Comparison{Factors: factors, Kind: api.CompareAtLeast, Bound: bound}
}

// equal returns a comparison that requires a sum of exactly bound.
func equal(bound int, factors ...int) api.Comparison {
	return api.Comparison{Factors: factors, Kind: api.CompareEqual, Bound: bound}
}

func compare(l ...api.Comparison) []api.Comparison { return l }

// set returns a change of a variable to the sum of the factors plus constant.
func set(variable, constant int, factors ...int) api.Change {
	return api.Change{Var: variable, Factors: factors, Constant: constant}
}

// operator returns an operator with one comparison and some changes.
func operator(c api.Comparison, changes ...api.Change) api.NumericOperator {
	return api.NumericOperator{Pre: compare(c), Changes: changes}
}

// free returns an operator with some changes that is always applicable.
func free(changes ...api.Change) api.NumericOperator {
	return api.NumericOperator{Changes: changes}
}

// operators returns a task without a goal.
func operators(initial []int, l ...api.NumericOperator) api.NumericTask {
	return api.NumericTask{Init: initial, Operators: l}
}

// Operators of the task below.
const buy, grind, sell, rest = 0, 1, 2, 3

// mill returns a valid task about an amount of grain, one of flour, and a number of coins. Two times buy, then grind and sell solve it.
func mill() api.NumericTask {
	return api.NumericTask{
		Init: ints(0, 0, 7),
		Goal: compare(atLeast(20, 0, 0, 1), equal(0, 1, 1, 0)),
		Operators: []api.NumericOperator{
			buy: {Pre: compare(atLeast(3, 0, 0, 1)), Changes: []api.Change{set(0, 2, 1, 0, 0), set(2, -3, 0, 0, 1)}, Cost: 1},
			// All grain becomes flour, which is the amount of grain before.
			grind: {Pre: compare(atLeast(1, 1, 0, 0), equal(0, 0, 1, 0)), Changes: []api.Change{set(0, 0, 0, 0, 0), set(1, 0, 1, 1, 0)}, Cost: 5},
			sell:  {Pre: compare(equal(4, 0, 1, 0)), Changes: []api.Change{set(1, 0, 0, 0, 0), set(2, -1, 0, 5, 1)}, Cost: api.MaxCost},
			rest:  {},
		},
	}
}

// applyCase is a call of Apply with its result.
type applyCase struct {
	name  string
	task  api.NumericTask
	v     []int
	op    int
	want  []int
	fault api.Fault
}

func checkApply(t *testing.T, cases []applyCase) {
	t.Helper()
	for _, c := range cases {
		got, f := numeric.Apply(c.task, c.v, c.op)
		if f != c.fault || !slices.Equal(got, c.want) {
			t.Errorf("%s: got %v, %v, want %v, %v", c.name, got, f, c.want, c.fault)
		}
	}
}

// TestApply covers R8.2.
func TestApply(t *testing.T) {
	none := fault(0, 0)
	moves := operators(ints(1, 2, 3),
		free(set(0, 0, 0, 1, 0), set(1, 0, 1, 0, 0)),
		free(set(0, 0, 0, 1, 0), set(1, 0, 0, 0, 1), set(2, 0, 1, 0, 0)),
		free(set(2, -7, 0, 0, 0)),
		free(set(1, 4, -2, 3, 1000)),
	)
	checkApply(t, []applyCase{
		{"example", operators(ints(3), free(set(0, 1, 2))), ints(3), 0, ints(7), none},
		{"example for other values", operators(ints(3), free(set(0, 1, 2))), ints(-3), 0, ints(-5), none},
		{"two changes", mill(), ints(0, 0, 7), buy, ints(2, 0, 4), none},
		{"values other than the initial ones", mill(), ints(5, -9, 100), buy, ints(7, -9, 97), none},
		{"changed variable in the sum of another one", mill(), ints(4, 0, 1), grind, ints(0, 4, 1), none},
		{"variable that is changed later in the sum of another one", mill(), ints(0, 4, 1), sell, ints(0, 0, 20), none},
		{"no changes", mill(), ints(1, 2, 3), rest, ints(1, 2, 3), none},
		{"values at the limits, no changes", mill(), ints(-api.MaxNumber, api.MaxNumber, 0), rest, ints(-api.MaxNumber, api.MaxNumber, 0), none},
		{"two variables exchanged", moves, ints(1, 2, 3), 0, ints(2, 1, 3), none},
		{"three variables exchanged", moves, ints(1, 2, 3), 1, ints(2, 3, 1), none},
		{"constant only", moves, ints(1, 2, 3), 2, ints(1, 2, -7), none},
		{"several factors", moves, ints(1, 2, -3), 3, ints(1, -2+6-3000+4, -3), none},
	})
}

// TestApplicable covers the comparisons of R8.2 with sums on both sides of their bounds.
func TestApplicable(t *testing.T) {
	none, not := fault(0, 0), fault(api.ErrState, 1)
	of := func(comparisons ...api.Comparison) api.NumericTask {
		return operators(ints(0, 0), free(), api.NumericOperator{Pre: comparisons})
	}
	for _, c := range []struct {
		name string
		task api.NumericTask
		v    []int
		want api.Fault
	}{
		{"at least, one less", of(atLeast(5, 1, 0)), ints(4, 9), not},
		{"at least, equal", of(atLeast(5, 1, 0)), ints(5, 0), none},
		{"at least, one more", of(atLeast(5, 1, 0)), ints(6, 0), none},
		{"equal, one less", of(equal(5, 1, 0)), ints(4, 5), not},
		{"equal, equal", of(equal(5, 1, 0)), ints(5, 0), none},
		{"equal, one more", of(equal(5, 1, 0)), ints(6, 5), not},
		{"at most, by negative numbers", of(atLeast(-5, -1, 0)), ints(5, 0), none},
		{"at most, one more", of(atLeast(-5, -1, 0)), ints(6, 0), not},
		{"two factors, one less", of(atLeast(1, 2, -3)), ints(3, 2), not},
		{"two factors, equal", of(atLeast(1, 2, -3)), ints(5, 3), none},
		{"no factor but zero, at least zero", of(atLeast(0, 0, 0)), ints(7, 7), none},
		{"no factor but zero, at least one", of(atLeast(1, 0, 0)), ints(7, 7), not},
		{"no factor but zero, equal to zero", of(equal(0, 0, 0)), ints(7, 7), none},
		{"several comparisons, all true", of(atLeast(1, 1, 0), equal(2, 0, 1), atLeast(3, 1, 1)), ints(1, 2), none},
		{"several comparisons, the first false", of(atLeast(1, 1, 0), equal(2, 0, 1), atLeast(-3, 1, 1)), ints(0, 2), not},
		{"several comparisons, the second false", of(atLeast(1, 1, 0), equal(2, 0, 1), atLeast(3, 1, 1)), ints(1, 3), not},
		{"several comparisons, the last false", of(atLeast(1, 1, 0), equal(2, 0, 1), atLeast(4, 1, 1)), ints(1, 2), not},
		{"comparisons that contradict each other", of(equal(1, 1, 0), equal(2, 1, 0)), ints(1, 0), not},
		{"greatest sum", of(atLeast(api.MaxNumber, 1000, 1000)), ints(api.MaxNumber, api.MaxNumber), none},
		{"greatest sum and the least bound", of(equal(-api.MaxNumber, 1000, 1000)), ints(api.MaxNumber, api.MaxNumber), not},
		{"least sum", of(atLeast(-api.MaxNumber, 1000, 1000)), ints(-api.MaxNumber, -api.MaxNumber), not},
		{"great products that cancel each other", of(equal(-1000, 1000, -1000)), ints(api.MaxNumber-1, api.MaxNumber), none},
		{"bound at the limit, one less", of(atLeast(api.MaxNumber, 1, 0)), ints(api.MaxNumber-1, 0), not},
		{"bound at the limit, equal", of(atLeast(api.MaxNumber, 1, 0)), ints(api.MaxNumber, 0), none},
		{"bound at the lower limit, equal", of(equal(-api.MaxNumber, 0, 1)), ints(0, -api.MaxNumber), none},
	} {
		want := c.v
		if c.want != none {
			want = nil
		}
		if got, f := numeric.Apply(c.task, c.v, 1); f != c.want || !slices.Equal(got, want) {
			t.Errorf("%s: got %v, %v, want %v, %v", c.name, got, f, want, c.want)
		}
		// The same comparisons as a goal.
		goal := api.NumericTask{Init: c.v, Goal: c.task.Operators[1].Pre}
		if is, f := numeric.Solves(goal, nil); f != none || is != (c.want == none) {
			t.Errorf("%s as the goal: got %v, %v", c.name, is, f)
		}
	}
}

// TestLargeResults covers ErrTooLarge of R8.2, from both sides of the limits.
func TestLargeResults(t *testing.T) {
	none, large := fault(0, 0), fault(api.ErrTooLarge, 0)
	const m = api.MaxNumber
	add := func(constant int) api.NumericTask { return operators(ints(0, 0), free(set(1, constant, 0, 1))) }
	wide := operators(make([]int, api.MaxVariables), free(set(7, 1000, slices.Repeat(ints(1000), api.MaxVariables)...)))
	checkApply(t, []applyCase{
		{"upper limit", add(1), ints(0, m-1), 0, ints(0, m), none},
		{"above the upper limit", add(1), ints(0, m), 0, nil, large},
		{"upper limit by the greatest constant", add(1000), ints(0, m-1000), 0, ints(0, m), none},
		{"above it by the greatest constant", add(1000), ints(0, m-999), 0, nil, large},
		{"lower limit", add(-1), ints(0, 1-m), 0, ints(0, -m), none},
		{"below the lower limit", add(-1), ints(0, -m), 0, nil, large},
		{"upper limit by a factor", operators(ints(0), free(set(0, 0, 1000))), ints(1000), 0, ints(m), none},
		{"above it by a factor", operators(ints(0), free(set(0, 0, 1000))), ints(1001), 0, nil, large},
		{"lower limit by a factor", operators(ints(0), free(set(0, 0, -1000))), ints(1000), 0, ints(-m), none},
		{"below it by a factor", operators(ints(0), free(set(0, 0, -1000))), ints(1001), 0, nil, large},
		{"sum beyond the limit with a constant that leads back", operators(ints(0), free(set(0, -1000, 2))), ints(m/2 + 500), 0, ints(m), none},
		{"products beyond the limit that cancel each other", operators(ints(0, 0), free(set(0, 3, 1000, -1000))), ints(m, m), 0, ints(3, m), none},
		{"first one of two changes", operators(ints(0, 0), free(set(0, 1, 1, 0), set(1, 0, 0, 0))), ints(m, 0), 0, nil, large},
		{"second one of two changes", operators(ints(0, 0), free(set(0, 0, 0, 0), set(1, 1, 0, 1))), ints(0, m), 0, nil, large},
		{"greatest sum", wide, slices.Repeat(ints(m), api.MaxVariables), 0, nil, large},
		{"least sum", wide, slices.Repeat(ints(-m), api.MaxVariables), 0, nil, large},
		{"later operator", operators(ints(m), free(), free(), free(set(0, 1, 1))), ints(m), 2, nil, fault(api.ErrTooLarge, 2)},
		{"operator that is not applicable", operators(ints(0), free(), operator(atLeast(7, 0), set(0, 1, 1))), ints(m), 1, nil, fault(api.ErrState, 1)},
	})
}

// TestSolves covers R8.3.
func TestSolves(t *testing.T) {
	tower := api.NumericTask{Init: ints(1), Goal: compare(equal(api.MaxNumber, 1)), Operators: []api.NumericOperator{
		free(set(0, 0, 1000)),
		free(set(0, 0, 0)),
		operator(equal(1000, 1), set(0, 0, 1000)),
	}}
	count := api.NumericTask{Init: ints(0), Goal: compare(equal(api.MaxPlan, 1)), Operators: []api.NumericOperator{free(set(0, 1, 1))}}
	idle := operators(ints(5), free(set(0, 1, 1)), operator(atLeast(9, 1)))
	for _, c := range []struct {
		name string
		task api.NumericTask
		plan []int
		want bool
	}{
		{"solution", mill(), ints(buy, buy, grind, sell), true},
		{"solution with steps without effect", mill(), ints(rest, buy, rest, buy, grind, rest, sell, rest), true},
		{"empty plan", mill(), nil, false},
		{"first comparison of the goal false", mill(), ints(rest), false},
		{"second comparison of the goal false", mill(), ints(buy, buy, grind, sell, buy), false},
		{"first step not applicable", mill(), ints(sell, buy, buy, grind, sell), false},
		{"step in between not applicable", mill(), ints(buy, sell, buy, grind, sell), false},
		{"last step not applicable", mill(), ints(buy, buy, grind, sell, sell), false},
		{"empty plan without a goal", idle, nil, true},
		{"steps without a goal", idle, ints(0, 0, 0), true},
		{"no goal, but a step that is not applicable", idle, ints(0, 1), false},
		{"no goal, and a step that becomes applicable", idle, ints(0, 0, 0, 0, 1), true},
		{"result at the limit", tower, ints(0, 0), true},
		{"result at the limit by an equal sum", tower, ints(0, 2), true},
		{"result beyond the limit", tower, ints(0, 0, 0), false},
		{"result beyond the limit in between", tower, ints(0, 0, 0, 1), false},
		{"without that step", tower, ints(0, 0, 1), false},
		{"no goal, but a result beyond the limit", operators(ints(api.MaxNumber), free(set(0, 1, 1))), ints(0), false},
		{"no goal, but a result below the limit", operators(ints(-api.MaxNumber), free(set(0, -1, 1)), free(set(0, 0, 0))), ints(0, 1), false},
		{"as many steps as permitted", count, make([]int, api.MaxPlan), true},
		{"one step fewer", count, make([]int, api.MaxPlan-1), false},
		{"task without operators", api.NumericTask{Init: ints(0, 4), Goal: compare(atLeast(4, 0, 1))}, nil, true},
	} {
		if got, f := numeric.Solves(c.task, c.plan); f != fault(0, 0) || got != c.want {
			t.Errorf("%s: got %v, %v, want %v", c.name, got, f, c.want)
		}
	}
}

func intervals(l ...[2]int) [][2]int { return l }

// boundsCase is a call of Bounds with its result.
type boundsCase struct {
	name  string
	task  api.NumericTask
	steps int
	want  [][2]int
}

func checkBounds(t *testing.T, cases []boundsCase) {
	t.Helper()
	for _, c := range cases {
		if got, f := numeric.Bounds(c.task, c.steps); f != fault(0, 0) || !slices.Equal(got, c.want) {
			t.Errorf("%s: got %v, %v, want %v", c.name, got, f, c.want)
		}
	}
}

// TestBounds covers the intervals of R8.4.
func TestBounds(t *testing.T) {
	double := operators(ints(3), free(set(0, 1, 2)))
	// In each step the second variable has what the first one had, and the third what the second had.
	follow := operators(ints(0, 0, 0), free(set(0, 5, 1, 0, 0)), free(set(1, 0, 1, 0, 0)), free(set(2, 0, 0, 1, 0)))
	backwards := operators(ints(0, 0, 0), free(set(2, 0, 0, 1, 0)), free(set(1, 0, 1, 0, 0)), free(set(0, 5, 1, 0, 0)))
	together := operators(ints(0, 0), free(set(0, 5, 1, 0), set(1, 0, 1, 0)))
	checkBounds(t, []boundsCase{
		{"no steps", double, 0, intervals([2]int{3, 3})},
		{"no steps, several variables", mill(), 0, intervals([2]int{}, [2]int{}, [2]int{7, 7})},
		{"one step", double, 1, intervals([2]int{3, 7})},
		{"two steps", double, 2, intervals([2]int{3, 15})},
		{"no operators", operators(ints(4, -5)), api.MaxPlan, intervals([2]int{4, 4}, [2]int{-5, -5})},
		{"operator without changes", operators(ints(4), free()), api.MaxPlan, intervals([2]int{4, 4})},
		{"change that changes nothing", operators(ints(4), free(set(0, 0, 1))), api.MaxPlan, intervals([2]int{4, 4})},
		{"as many steps as permitted", operators(ints(0), free(set(0, -1, 1))), api.MaxPlan, intervals([2]int{-60, 0})},
		{"both directions", operators(ints(0), free(set(0, -1, 1)), free(set(0, 2, 1))), 3, intervals([2]int{-3, 6})},
		{"both directions, exchanged", operators(ints(0), free(set(0, 2, 1)), free(set(0, -1, 1))), 3, intervals([2]int{-3, 6})},
		{"several operators that increase", operators(ints(0), free(set(0, 2, 1)), free(set(0, 5, 1)), free(set(0, 3, 1))), 2, intervals([2]int{0, 10})},
		{"constant only", operators(ints(4), free(set(0, 9, 0))), 5, intervals([2]int{4, 9})},
		{"negative factor", operators(ints(3), free(set(0, 0, -2))), 1, intervals([2]int{-6, 3})},
		{"negative factor, two steps", operators(ints(3), free(set(0, 0, -2))), 2, intervals([2]int{-6, 12})},
		{"negative factor, three steps", operators(ints(3), free(set(0, 0, -2))), 3, intervals([2]int{-24, 12})},
		{"factors of both signs", operators(ints(1, 2), free(set(0, 1, 2, -3)), free(set(1, 0, -1, 1))), 2, intervals([2]int{-11, 1}, [2]int{0, 5})},
		{"first of three steps", follow, 1, intervals([2]int{0, 5}, [2]int{}, [2]int{})},
		{"second of three steps", follow, 2, intervals([2]int{0, 10}, [2]int{0, 5}, [2]int{})},
		{"all three steps", follow, 3, intervals([2]int{0, 15}, [2]int{0, 10}, [2]int{0, 5})},
		{"all three steps, operators in another order", backwards, 3, intervals([2]int{0, 15}, [2]int{0, 10}, [2]int{0, 5})},
		{"changes of one operator", together, 1, intervals([2]int{0, 5}, [2]int{})},
		{"changes of one operator, two steps", together, 2, intervals([2]int{0, 10}, [2]int{0, 5})},
		{"what sell requires is not yet possible", mill(), 2, intervals([2]int{0, 4}, [2]int{0, 2}, [2]int{1, 7})},
		{"what sell requires becomes possible", mill(), 4, intervals([2]int{0, 8}, [2]int{0, 12}, [2]int{-5, 36})},
	})
}

// TestPossibleOperators covers the comparisons of R8.4 for a variable from 0 to 4 and another one from -4 to 0: the operator below makes the third variable 1 if it is possible.
func TestPossibleOperators(t *testing.T) {
	for _, c := range []struct {
		name        string
		comparisons []api.Comparison
		want        int
	}{
		{"none", nil, 1},
		{"greatest sum is the bound", compare(atLeast(4, 1, 0, 0)), 1},
		{"greatest sum is less", compare(atLeast(5, 1, 0, 0)), 0},
		{"smallest sum is the bound", compare(atLeast(0, 1, 0, 0)), 1},
		{"smallest sum is greater", compare(atLeast(-1, 1, 0, 0)), 1},
		{"equal to the greatest sum", compare(equal(4, 1, 0, 0)), 1},
		{"equal, greatest sum is less", compare(equal(5, 1, 0, 0)), 0},
		{"equal to the smallest sum", compare(equal(0, 1, 0, 0)), 1},
		{"equal, smallest sum is greater", compare(equal(-1, 1, 0, 0)), 0},
		{"equal to a sum in between", compare(equal(3, 1, 0, 0)), 1},
		{"equal to a number that is no sum", compare(equal(3, 2, 0, 0)), 1},
		{"negative factor, greatest sum", compare(atLeast(0, -1, 0, 0)), 1},
		{"negative factor, greatest sum is less", compare(atLeast(1, -1, 0, 0)), 0},
		{"negative factor, equal to the smallest sum", compare(equal(-4, -1, 0, 0)), 1},
		{"negative factor, smallest sum is greater", compare(equal(-5, -1, 0, 0)), 0},
		{"factors of both signs, greatest sum", compare(atLeast(20, 2, -3, 0)), 1},
		{"factors of both signs, greatest sum is less", compare(atLeast(21, 2, -3, 0)), 0},
		{"factors of one sign, smallest sum", compare(equal(-12, 2, 3, 0)), 1},
		{"factors of one sign, smallest sum is greater", compare(equal(-13, 2, 3, 0)), 0},
		{"factors of one sign, greatest sum is less", compare(equal(9, 2, 3, 0)), 0},
		{"two that are only possible one by one", compare(equal(4, 1, 0, 0), equal(0, 1, 0, 0)), 1},
		{"two, of which the first is impossible", compare(atLeast(5, 1, 0, 0), atLeast(0, 0, 1, 0)), 0},
		{"two, of which the second is impossible", compare(atLeast(0, 0, 1, 0), atLeast(5, 1, 0, 0)), 0},
		{"two, of which both are impossible", compare(equal(5, 1, 0, 0), equal(-5, 0, 1, 0)), 0},
	} {
		task := operators(ints(0, 0, 0),
			free(set(0, 4, 0, 0, 0), set(1, -4, 0, 0, 0)),
			api.NumericOperator{Pre: c.comparisons, Changes: []api.Change{set(2, 1, 0, 0, 0)}},
			// In the second step, it is nothing new that the first two variables are 0.
			free(set(0, 0, 0, 0, 0), set(1, 0, 0, 0, 0)))
		got, f := numeric.Bounds(task, 2)
		if want := intervals([2]int{0, 4}, [2]int{-4, 0}, [2]int{0, c.want}); f != fault(0, 0) || !slices.Equal(got, want) {
			t.Errorf("%s: got %v, %v, want %v", c.name, got, f, want)
		}
	}
}

// TestLargeBounds covers R8.4 where intervals of sums exceed the limits of values.
func TestLargeBounds(t *testing.T) {
	const m = api.MaxNumber
	grow := operators(ints(1, 1), free(set(0, 0, 1000, 0)), free(set(1, 0, 0, -1000)))
	checkBounds(t, []boundsCase{
		{"within the limits", grow, 2, intervals([2]int{1, m}, [2]int{-1000, m})},
		{"beyond the limits", grow, 3, intervals([2]int{1, m}, [2]int{-m, m})},
		{"far beyond the limits", grow, api.MaxPlan, intervals([2]int{1, m}, [2]int{-m, m})},
		{"upper limit", operators(ints(m-1000), free(set(0, 1000, 1))), 1, intervals([2]int{m - 1000, m})},
		{"above the upper limit", operators(ints(m-999), free(set(0, 1000, 1))), 1, intervals([2]int{m - 999, m})},
		{"lower limit", operators(ints(1000-m), free(set(0, -1000, 1))), 1, intervals([2]int{-m, 1000 - m})},
		{"below the lower limit", operators(ints(999-m), free(set(0, -1000, 1))), 1, intervals([2]int{-m, 999 - m})},
		// No value of such an interval is permitted, but the new ends are what R8.4 says in its last part.
		{"interval above the upper limit", operators(ints(1001), free(set(0, 0, 1000))), 1, intervals([2]int{1001, m})},
		{"interval below the lower limit", operators(ints(1001), free(set(0, 0, -1000))), 1, intervals([2]int{-m, 1001})},
		// After the first step, the interval has the limit and not the greater sum.
		{"sum of an interval at the limit", operators(ints(2000, 0), free(set(0, 0, 1000, 0)), operator(atLeast(m, 1, 0), set(1, -1000, 0, 0)), operator(atLeast(1, 1, 0), set(1, 7, 0, 0))), 2, intervals([2]int{2000, m}, [2]int{-1000, 7})},
		{"no more than the limit", operators(ints(2000, 0), free(set(0, 0, 1000, 0)), operator(atLeast(1, 1, -1), set(1, 1, 1, 0))), 2, intervals([2]int{2000, m}, [2]int{0, m})},
		{"greatest sums", operators(slices.Repeat(ints(m), api.MaxVariables), free(set(0, 1000, slices.Repeat(ints(1000), api.MaxVariables)...), set(7, -1000, slices.Repeat(ints(-1000), api.MaxVariables)...))), 1,
			append(append(intervals([2]int{m, m}), slices.Repeat(intervals([2]int{m, m}), 6)...), [2]int{-m, m})},
		// Sums and comparisons are not limited: 999 times the limit is greater than any bound, and the difference is exact.
		{"products beyond the limits that cancel each other", operators(ints(m, m-1, 0), operator(equal(999, 999, -999, 0), set(2, 1, 1000, -1000, 0))), 1, intervals([2]int{m, m}, [2]int{m - 1, m - 1}, [2]int{0, 1001})},
	})
}
