package encode_test

import (
	"fmt"
	"math"
	"reflect"
	"slices"
	"testing"

	"helmsman/api"
	"helmsman/encode"
)

// call is a list of arguments from which every function takes those that it has.
type call struct {
	Task   api.Task
	Groups [][]int
	State  []int
}

// valid returns arguments for which no function reports a fault.
func valid() call {
	return call{shipping(), lists(ints(first, sea, second), ints(crateFirst, aboard), ints(crateFirst, aboard, crateSecond)), ints(sea, aboard)}
}

// function is an exported function, with what it depends on beside the task and the groups.
type function struct {
	name, depends string
	run           func(c call) (results []any, f api.Fault)
}

var functions = []function{
	{"Cover", "", func(c call) ([]any, api.Fault) {
		l, f := encode.Cover(c.Task, c.Groups)
		return []any{l}, f
	}},
	{"State", "state", func(c call) ([]any, api.Fault) {
		l, f := encode.State(c.Task, c.Groups, c.State)
		return []any{l}, f
	}},
	{"Multi", "size", func(c call) ([]any, api.Fault) {
		m, l, f := encode.Multi(c.Task, c.Groups)
		return []any{m, l}, f
	}},
}

// areZero reports whether all results are zero values.
func areZero(results []any) bool {
	return !slices.ContainsFunc(results, func(r any) bool { return !reflect.ValueOf(r).IsZero() })
}

// expect compares the fault of a function, and reports other results than zero values together with one.
func (f function) expect(t *testing.T, name string, c call, want api.Fault) {
	t.Helper()
	results, got := f.run(c)
	if got != want || got != fault(0, 0) && !areZero(results) {
		t.Errorf("%s, %s: got %v, %v, want %v", f.name, name, results, got, want)
	}
}

// expectAll compares the fault of all functions.
func expectAll(t *testing.T, name string, c call, want api.Fault) {
	t.Helper()
	for _, f := range functions {
		f.expect(t, name, c, want)
	}
}

// change is a way to change valid arguments, and what the functions then report that depend on this: all of them if kind is empty.
type change struct {
	name, kind string
	apply      func(c *call)
	want       api.Fault
}

// operator returns a change of one operator.
func operator(name string, i int, apply func(o *api.Operator), code int) change {
	return change{name, "", func(c *call) { apply(&c.Task.Operators[i]) }, fault(code, i)}
}

// group returns a change of one group.
func group(name string, i int, facts []int, code int) change {
	return change{name, "", func(c *call) { c.Groups[i] = facts }, fault(code, -8)}
}

// changes are in the order in which the errors are checked. Any of them can be combined.
var changes = []change{
	{"too many facts for a task", "", func(c *call) { c.Task.Facts += 20 }, fault(api.ErrRange, -1)},
	{"initial state", "", func(c *call) { c.Task.Init = ints(crateFirst, first) }, fault(api.ErrMalformed, -2)},
	{"goal", "", func(c *call) { c.Task.Goal = ints(99) }, fault(api.ErrMalformed, -3)},
	{"too many operators for a task", "", func(c *call) {
		c.Task.Operators = append(c.Task.Operators, make([]api.Operator, api.MaxOperators)...)
	}, fault(api.ErrTooMany, -1)},
	operator("precondition", 0, func(o *api.Operator) { o.Pre = ints(-1) }, api.ErrMalformed),
	operator("cost", 1, func(o *api.Operator) { o.Cost = api.MaxCost + 1 }, api.ErrRange),
	operator("fact added and deleted", 3, func(o *api.Operator) { o.Del = o.Add }, api.ErrMalformed),
	{"too many groups", "", func(c *call) { c.Groups = append(c.Groups, make([][]int, api.MaxFacts)...) }, fault(api.ErrTooMany, -8)},
	group("facts in wrong order in the first group", 0, ints(1, 0), api.ErrMalformed),
	group("fact that does not exist in the first group", 0, ints(first, crateFirst, 99), api.ErrMalformed),
	group("first group has two initial facts", 0, ints(first, crateFirst), api.ErrUnsafe),
	group("fact twice in the second group", 1, ints(3, 3), api.ErrMalformed),
	group("second group is not kept", 1, ints(aboard, crateSecond), api.ErrUnsafe),
	group("negative fact in the third group", 2, ints(-1, 4), api.ErrMalformed),
	group("third group is not kept", 2, ints(first, sea), api.ErrUnsafe),
	{"state", "state", func(c *call) { c.State = append(c.State, 0) }, fault(api.ErrMalformed, -4)},
	{"fact of the state", "state", func(c *call) { c.State = ints(sea, 99) }, fault(api.ErrMalformed, -4)},
	{"two facts of a class in the state", "state", func(c *call) { c.State = ints(sea, second, aboard) }, fault(api.ErrConflict, -9)},
	{"too many classes", "size", func(c *call) { c.Task.Facts += 6 }, fault(api.ErrTooLarge, -9)},
	{"too large class", "size", func(c *call) {
		c.Task.Facts += 6
		c.Groups = append(c.Groups, ints(6, 7, 8, 9, 10, 11))
	}, fault(api.ErrTooLarge, -9)},
	{"two facts of a class in the goal", "size", func(c *call) { c.Task.Goal = ints(sea, second) }, fault(api.ErrUnsolvable, -9)},
	{"too many operators from one", "size", func(c *call) {
		c.Task.Operators = append(c.Task.Operators, slices.Repeat([]api.Operator{{Del: upTo(6)}}, 2)...)
	}, fault(api.ErrTooLarge, -9)},
}

// expectFirst makes changes and expects the fault of the first one that concerns the function.
func (f function) expectFirst(t *testing.T, made ...change) {
	t.Helper()
	c := valid()
	name, want := "nothing", fault(0, 0)
	for i := len(made) - 1; i >= 0; i-- {
		made[i].apply(&c)
		name = made[i].name + ", " + name
		if made[i].kind == "" || made[i].kind == f.depends {
			want = made[i].want
		}
	}
	f.expect(t, name, c, want)
}

// TestFaults covers the errors of R11.1 to R11.3 and their order: of any three errors, the one that is checked first is reported, and the results are zero values.
func TestFaults(t *testing.T) {
	for _, f := range functions {
		f.expectFirst(t)
		for i, a := range changes {
			f.expectFirst(t, a)
			for k, b := range changes[i+1:] {
				f.expectFirst(t, a, b)
				for _, c := range changes[i+1+k+1:] {
					f.expectFirst(t, a, b, c)
				}
			}
		}
	}
}

// TestGroups covers the errors at -8 for single groups, at each position.
func TestGroups(t *testing.T) {
	malformed, unsafe := fault(api.ErrMalformed, -8), fault(api.ErrUnsafe, -8)
	expectEach := func(l [][]int, want api.Fault) {
		t.Helper()
		for _, group := range l {
			name := fmt.Sprint("group ", group[:min(len(group), 9)])
			for i := range 4 {
				c := valid()
				c.Groups = slices.Insert(c.Groups, i, group)
				expectAll(t, name, c, want)
			}
			for i := range api.MaxFacts {
				c := call{Task: shipping(), Groups: make([][]int, api.MaxFacts)}
				c.Groups[i] = group
				expectAll(t, name+" and empty groups", c, want)
			}
		}
	}
	expectEach(lists(
		ints(-1), ints(6), ints(7), ints(24), ints(63), ints(64), ints(math.MinInt), ints(math.MaxInt),
		ints(-1, 0), ints(0, -1), ints(5, 6), ints(6, 5), ints(0, 64), ints(64, 65),
		ints(0, 0), ints(5, 5), ints(1, 0), ints(5, 0), ints(0, 2, 1), ints(0, 1, 1), upTo(7), ints(5, 4, 3, 2, 1, 0),
		ints(math.MinInt, 0), ints(0, math.MaxInt), ints(0, math.MaxInt, math.MinInt), make([]int, 1000000), upTo(1000000),
		ints(first, crateFirst, crateFirst), ints(crateFirst, first), // not even the initial state has at most one of them
	), malformed)
	expectEach(lists(ints(first, crateFirst), ints(first, sea), ints(aboard, crateSecond), ints(second, aboard, crateSecond), upTo(6)), unsafe)
	expectEach(lists(nil, ints(), ints(first), ints(crateSecond), ints(first, sea, second), ints(crateFirst, aboard), ints(crateFirst, aboard, crateSecond)), fault(0, 0))
}

// TestGroupsOfTasks covers that groups are judged for the task that is given.
func TestGroupsOfTasks(t *testing.T) {
	adds := api.Operator{Add: ints(0)}
	for _, c := range []struct {
		name  string
		task  api.Task
		group []int
		want  api.Fault
	}{
		{"zero task", api.Task{}, nil, fault(0, 0)},
		{"fact of the zero task", api.Task{}, ints(0), fault(api.ErrMalformed, -8)},
		{"no operators", with(2), ints(0, 1), fault(0, 0)},
		{"both facts true initially", from(with(2), 0, 1), ints(0, 1), fault(api.ErrUnsafe, -8)},
		{"operator that adds", with(2, adds), ints(0, 1), fault(api.ErrUnsafe, -8)},
		{"operator that adds last", with(2, append(make([]api.Operator, api.MaxOperators-1), adds)...), ints(0, 1), fault(api.ErrUnsafe, -8)},
		{"operator that adds a single fact", with(2, adds), ints(0), fault(0, 0)},
		{"operator that adds and deletes", with(2, api.Operator{Add: ints(0), Del: ints(1)}), ints(0, 1), fault(0, 0)},
		{"operator that needs both", with(2, api.Operator{Pre: ints(0, 1), Add: ints(0)}), ints(0, 1), fault(0, 0)},
		{"most facts", with(api.MaxFacts), upTo(api.MaxFacts), fault(0, 0)},
		{"one fact too many", with(api.MaxFacts), upTo(api.MaxFacts + 1), fault(api.ErrMalformed, -8)},
	} {
		for _, f := range functions[:2] {
			f.expect(t, c.name, call{Task: c.task, Groups: lists(c.group)}, c.want)
		}
		if _, _, f := encode.Multi(c.task, lists(c.group)); c.want != fault(0, 0) && f != c.want {
			t.Errorf("Multi, %s: got %v, want %v", c.name, f, c.want)
		}
	}
}

// TestNumbersOfGroups covers ErrTooMany at -8.
func TestNumbersOfGroups(t *testing.T) {
	tooMany := fault(api.ErrTooMany, -8)
	for n, want := range map[int]api.Fault{0: {}, 1: {}, api.MaxFacts - 1: {}, api.MaxFacts: {}, api.MaxFacts + 1: tooMany, 100000: tooMany} {
		expectAll(t, fmt.Sprint(n, " empty groups"), call{Task: with(2), Groups: make([][]int, n)}, want)
		expectAll(t, fmt.Sprint(n, " equal groups"), call{Task: with(2), Groups: slices.Repeat(lists(ints(0, 1)), n)}, want)
		if want != fault(0, 0) {
			expectAll(t, fmt.Sprint(n, " malformed groups"), call{Task: with(2), Groups: slices.Repeat(lists(ints(2)), n)}, want)
			expectAll(t, fmt.Sprint(n, " unsafe groups"), call{Task: from(with(2), 0, 1), Groups: slices.Repeat(lists(ints(0, 1)), n)}, want)
		}
	}
}

// TestStates covers ErrMalformed at -4 of R11.2.
func TestStates(t *testing.T) {
	state := functions[1]
	for _, s := range lists(
		ints(-1), ints(6), ints(24), ints(64), ints(math.MinInt), ints(math.MaxInt), ints(0, 0), ints(1, 0), ints(0, 3, 3), ints(0, 6),
		ints(0, 1, 0), ints(5, 4), upTo(7), make([]int, 1000000), upTo(1000000),
	) {
		name := fmt.Sprint("state ", s[:min(len(s), 9)])
		state.expect(t, name, call{shipping(), nil, s}, fault(api.ErrMalformed, -4))
		state.expect(t, name+" of classes", call{shipping(), places(), s}, fault(api.ErrMalformed, -4))
	}
	state.expect(t, "fact of the zero task", call{State: ints(0)}, fault(api.ErrMalformed, -4))
	for _, s := range lists(nil, ints(), ints(0), ints(5), upTo(6)) {
		state.expect(t, fmt.Sprint("state ", s), call{shipping(), nil, s}, fault(0, 0))
	}
}

// TestSizes covers ErrTooLarge at -9 of R11.3 for the numbers of classes and of their facts.
func TestSizes(t *testing.T) {
	tooLarge := fault(api.ErrTooLarge, -9)
	multi := functions[2]
	multi.expect(t, "zero task", call{}, tooLarge)
	multi.expect(t, "empty groups", call{Groups: make([][]int, 3)}, tooLarge)
	multi.expect(t, "no facts, but operators", call{Task: with(0, make([]api.Operator, 3)...)}, tooLarge)
	for n := 1; n <= api.MaxFacts; n++ {
		want := fault(0, 0)
		if n > api.MaxVariables {
			want = tooLarge
		}
		multi.expect(t, fmt.Sprint(n, " single facts"), call{Task: with(n)}, want)
		want = fault(0, 0)
		if n >= api.MaxValues {
			want = tooLarge
		}
		multi.expect(t, fmt.Sprint("class of ", n), call{Task: with(n), Groups: lists(upTo(n))}, want)
		if n >= 3 {
			c := call{Task: with(n), Groups: lists(ints(0), ints(n-1), upTo(n))} // the third class has two facts less than the group
			want = fault(0, 0)
			if n-2 >= api.MaxValues {
				want = tooLarge
			}
			multi.expect(t, fmt.Sprint("class of ", n-2, " after others"), c, want)
		}
	}
	for pairs, want := range []api.Fault{tooLarge, fault(0, 0), fault(0, 0)} {
		c := call{Task: with(api.MaxVariables + 1), Groups: lists(nil, ints(0, 8), ints(3, 5))[:pairs+1]}
		multi.expect(t, fmt.Sprint("9 facts, ", pairs, " pairs"), c, want)
	}
	c := call{Task: with(api.MaxFacts), Groups: slices.Collect(slices.Chunk(upTo(api.MaxFacts), 3))}
	multi.expect(t, "most facts in as many classes as permitted", c, fault(0, 0))
	c.Groups[7] = ints(21, 22)
	multi.expect(t, "most facts in one class too many", c, tooLarge)
}

// TestGoals covers ErrUnsolvable at -9 of R11.3.
func TestGoals(t *testing.T) {
	unsolvable := fault(api.ErrUnsolvable, -9)
	for _, c := range []struct {
		goal []int
		want api.Fault
	}{
		{nil, fault(0, 0)},
		{ints(0), fault(0, 0)},
		{ints(0, 3), fault(0, 0)},
		{ints(2, 5), fault(0, 0)},
		{ints(0, 1), unsolvable},
		{ints(0, 2), unsolvable},
		{ints(1, 2), unsolvable},
		{ints(0, 4, 5), unsolvable},
		{ints(0, 1, 4), unsolvable},
		{upTo(6), unsolvable},
	} {
		multi := functions[2]
		multi.expect(t, fmt.Sprint("goal ", c.goal), call{Task: to(shipping(), c.goal...), Groups: places()}, c.want)
		multi.expect(t, fmt.Sprint("goal without groups ", c.goal), call{Task: to(shipping(), c.goal...)}, fault(0, 0))
	}
	// The facts 0, 1 and 2 are in a group, but in the classes [1] and [0 2].
	split := lists(ints(1), upTo(3))
	functions[2].expect(t, "two facts of a group in different classes", call{Task: to(with(3), 1, 2), Groups: split}, fault(0, 0))
	functions[2].expect(t, "two facts of a group in the same class", call{Task: to(with(3), 0, 2), Groups: split}, unsolvable)
}

// deletes returns an operator that deletes the first fact of some classes, each of which has 2 facts.
func deletes(classes int) api.Operator {
	var o api.Operator
	for i := range classes {
		o.Del = append(o.Del, 2*i)
	}
	return o
}

// TestNumbersOfOperators covers ErrTooLarge at -9 of R11.3 for the number of operators.
func TestNumbersOfOperators(t *testing.T) {
	pairs := slices.Collect(slices.Chunk(upTo(16), 2))
	left := api.Operator{Pre: ints(0, 1)}
	for _, c := range []struct {
		name   string
		number int
		made   []api.Operator
	}{
		{"none", 0, nil},
		{"as many as given", 40, make([]api.Operator, 40)},
		{"3 classes", 27, []api.Operator{deletes(3)}},
		{"4 classes", 81, []api.Operator{deletes(4)}},
		{"3 classes and others", 40, append(make([]api.Operator, 13), deletes(3))},
		{"3 classes and one more", 41, append(make([]api.Operator, 14), deletes(3))},
		{"one after 3 classes too many", 41, append([]api.Operator{deletes(3)}, make([]api.Operator, 14)...)},
		{"most combinations", 40, []api.Operator{deletes(3), deletes(2), deletes(1), {}}},
		{"one combination too many", 41, []api.Operator{deletes(3), deletes(2), deletes(1), {}, {}}},
		{"two classes too many", 45, []api.Operator{deletes(3), deletes(2), deletes(2)}},
		{"operators that are left out", 40, append(slices.Repeat([]api.Operator{left}, 36), deletes(3), deletes(2), deletes(1), api.Operator{})},
		{"operators that are all left out", 0, slices.Repeat([]api.Operator{left}, 40)},
		{"one too many after those that are left out", 41, append(slices.Repeat([]api.Operator{left}, 35), deletes(3), deletes(2), deletes(1), api.Operator{}, api.Operator{})},
		{"left out with many combinations", 1, []api.Operator{{Pre: ints(0, 1), Del: upTo(16)}, {Pre: ints(14, 15), Del: upTo(16)}, {}}},
		{"all classes", 6561, []api.Operator{deletes(8)}},
		{"all classes in all operators", 40 * 6561, slices.Repeat([]api.Operator{deletes(8)}, 40)},
	} {
		want := fault(0, 0)
		if c.number > api.MaxOperators {
			want = fault(api.ErrTooLarge, -9)
		}
		functions[2].expect(t, c.name, call{Task: with(16, c.made...), Groups: pairs}, want)
		if m, origins, _ := encode.Multi(with(16, c.made...), pairs); want == fault(0, 0) && (len(m.Operators) != c.number || len(origins) != c.number) {
			t.Errorf("%s: got %d operators and %d origins, want %d", c.name, len(m.Operators), len(origins), c.number)
		}
	}
	most := call{Task: with(api.MaxFacts, slices.Repeat([]api.Operator{{Del: upTo(api.MaxFacts)}}, api.MaxOperators)...)}
	most.Groups = slices.Collect(slices.Chunk(upTo(api.MaxFacts), 3))
	functions[2].expect(t, "4^8 combinations", most, fault(api.ErrTooLarge, -9))
	most.Groups = slices.Collect(slices.Chunk(upTo(api.MaxFacts), 5))
	functions[2].expect(t, "5 * 6^4 combinations", most, fault(api.ErrTooLarge, -9))
}

// TestOnlyOwnFaults covers that the errors of one function are not those of the others.
func TestOnlyOwnFaults(t *testing.T) {
	c := valid()
	c.Task.Goal = ints(sea, second)
	c.State = ints(sea, second)
	functions[0].expect(t, "goal and state", c, fault(0, 0))
	functions[1].expect(t, "goal and state", c, fault(api.ErrConflict, -9))
	functions[2].expect(t, "goal and state", c, fault(api.ErrUnsolvable, -9))
	large := call{Task: with(api.MaxFacts), State: ints(23)}
	functions[0].expect(t, "many classes", large, fault(0, 0))
	functions[1].expect(t, "many classes", large, fault(0, 0))
	functions[2].expect(t, "many classes", large, fault(api.ErrTooLarge, -9))
}
