package encode_test

import (
	"fmt"
	"math/rand"
	"slices"
	"testing"

	"helmsman/api"
	"helmsman/encode"
	"helmsman/invariant"
	"helmsman/multi"
	"helmsman/strips"
)

// cover is the result of Cover by the text of the document.
func cover(task api.Task, groups [][]int) [][]int {
	classOf := map[int]int{}
	var classes [][]int
	for _, facts := range append(slices.Clone(groups), slices.Collect(slices.Chunk(upTo(task.Facts), 1))...) {
		var class []int
		for _, fact := range facts {
			if _, ok := classOf[fact]; !ok {
				class, classOf[fact] = append(class, fact), len(classes)
			}
		}
		if class != nil {
			classes = append(classes, class)
		}
	}
	return classes
}

// common returns the elements of a class that are in a list.
func common(class, facts []int) []int {
	return slices.DeleteFunc(slices.Clone(class), func(fact int) bool { return !slices.Contains(facts, fact) })
}

// clashes reports whether two facts of a class are in a list.
func clashes(classes [][]int, facts []int) bool {
	return slices.ContainsFunc(classes, func(class []int) bool { return len(common(class, facts)) > 1 })
}

// state is the result of State by the text of the document, if there is one.
func state(classes [][]int, s []int) []int {
	var values []int
	for _, class := range classes {
		value := len(class)
		if l := common(class, s); len(l) == 1 {
			value = slices.Index(class, l[0])
		}
		values = append(values, value)
	}
	return values
}

// isAssumed reports whether a value is an assumption of a class; -1 says that there is none.
func isAssumed(class []int, o api.Operator, value int) bool {
	pre, add, del := common(class, o.Pre), common(class, o.Add), common(class, o.Del)
	switch {
	case len(pre) == 1:
		return value >= 0 && value < len(class) && class[value] == pre[0]
	case len(pre)+len(add) == 0 && len(del) > 0:
		return value >= 0
	}
	return value < 0
}

// made returns the operators that are made from one by the text of the document, for the classes from the given number on and the assumptions of those before.
func made(classes [][]int, o api.Operator, assumed []int) []api.MultiOperator {
	if len(assumed) < len(classes) {
		var l []api.MultiOperator
		class := classes[len(assumed)]
		for value := -1; value <= len(class); value++ {
			if isAssumed(class, o, value) {
				l = append(l, made(classes, o, append(slices.Clone(assumed), value))...)
			}
		}
		return l
	}
	m := api.MultiOperator{Cost: o.Cost, Pre: assigns(assumed...)}
	for v, class := range classes {
		value := assumed[v]
		switch add := common(class, o.Add); {
		case len(add) == 1:
			if added := slices.Index(class, add[0]); added != value {
				m.Post = append(m.Post, api.Assign{Var: v, Value: added})
			}
		case value >= 0 && value < len(class) && slices.Contains(o.Del, class[value]):
			m.Post = append(m.Post, api.Assign{Var: v, Value: len(class)})
		}
	}
	return []api.MultiOperator{m}
}

// translation is the result of Multi by the text of the document, with the number of operators that are left out. Only tasks with at most a few thousand combinations are small enough for it.
func translation(task api.Task, groups [][]int) (m api.MultiTask, origins []int, left int, f api.Fault) {
	classes := cover(task, groups)
	isLarge := func(class []int) bool { return len(class) >= api.MaxValues }
	if len(classes) < 1 || len(classes) > api.MaxVariables || slices.ContainsFunc(classes, isLarge) {
		return api.MultiTask{}, nil, 0, fault(api.ErrTooLarge, -9)
	}
	if clashes(classes, task.Goal) {
		return api.MultiTask{}, nil, 0, fault(api.ErrUnsolvable, -9)
	}
	for v, class := range classes {
		m.Sizes = append(m.Sizes, len(class)+1)
		for _, fact := range common(class, task.Goal) {
			m.Goal = append(m.Goal, api.Assign{Var: v, Value: slices.Index(class, fact)})
		}
	}
	m.Init = state(classes, task.Init)
	for i, o := range task.Operators {
		if clashes(classes, o.Pre) || clashes(classes, o.Add) {
			left++
			continue
		}
		for _, o := range made(classes, o, nil) {
			m.Operators, origins = append(m.Operators, o), append(origins, i)
		}
	}
	if len(m.Operators) > api.MaxOperators {
		return api.MultiTask{}, nil, 0, fault(api.ErrTooLarge, -9)
	}
	return m, origins, left, api.Fault{}
}

// expectResults compares the results for a task and inductive groups with the text of the document, and returns the kind of the result.
func expectResults(t *testing.T, task api.Task, groups [][]int) string {
	t.Helper()
	if got, f := encode.Cover(task, groups); f != fault(0, 0) || !same(got, cover(task, groups)) {
		t.Errorf("Cover(%v, %v): got %v, %v, want %v", task, groups, got, f, cover(task, groups))
	}
	m, origins, left, want := translation(task, groups)
	got, gotOrigins, f := encode.Multi(task, groups)
	if f != want || fmt.Sprint(got) != fmt.Sprint(m) || !slices.Equal(gotOrigins, origins) {
		t.Errorf("Multi(%v, %v): got %v, %v, %v, want %v, %v, %v", task, groups, got, gotOrigins, f, m, origins, want)
	}
	switch {
	case want == fault(api.ErrTooLarge, -9):
		return "too large"
	case want == fault(api.ErrUnsolvable, -9):
		return "unsolvable"
	}
	if f := multi.Validate(got); f != fault(0, 0) {
		t.Errorf("Multi(%v, %v): %v is invalid: %v", task, groups, got, f)
	}
	switch distinct := len(slices.Compact(slices.Clone(origins))); {
	case left > 0:
		return "operators left out"
	case len(origins) > distinct:
		return "several operators from one"
	}
	return "one operator from each"
}

// expectState compares the values of a set of facts with the text of the document.
func expectState(t *testing.T, task api.Task, groups [][]int, s []int) {
	t.Helper()
	classes := cover(task, groups)
	values, want := state(classes, s), api.Fault{}
	if clashes(classes, s) {
		values, want = nil, fault(api.ErrConflict, -9)
	}
	if got, f := encode.State(task, groups, s); f != want || !slices.Equal(got, values) {
		t.Errorf("State(%v, %v, %v): got %v, %v, want %v, %v", task, groups, s, got, f, values, want)
	}
}

// subsets returns all sets of the facts 0 to n-1.
func subsets(n int) [][]int {
	var l [][]int
	for number := range 1 << n {
		l = append(l, slices.DeleteFunc(upTo(n), func(fact int) bool { return number>>fact&1 == 0 }))
	}
	return l
}

// inductive returns those of the groups that are inductive.
func inductive(task api.Task, groups [][]int) [][]int {
	return slices.DeleteFunc(slices.Clone(groups), func(group []int) bool {
		is, _ := invariant.Inductive(task, group)
		return !is
	})
}

// TestSmallTasks covers R11.1 to R11.3 for all operators over three facts and all pairs of groups of them that are inductive.
func TestSmallTasks(t *testing.T) {
	kinds := map[string]int{}
	sets := subsets(3)
	for i, pre := range sets {
		for _, add := range sets {
			for _, del := range sets {
				if len(common(add, del)) > 0 {
					continue
				}
				task := from(to(with(3, api.Operator{Pre: pre, Add: add, Del: del, Cost: i}), sets[(i+3)%8]...), sets[i%3]...)
				groups := inductive(task, sets)
				for _, a := range groups {
					for _, b := range groups {
						kinds[expectResults(t, task, lists(a, b))]++
						compareTasks(t, task, lists(a, b))
						expectState(t, task, lists(a, b), sets[(i+5)%8])
					}
				}
			}
		}
	}
	for _, kind := range []string{"unsolvable", "operators left out", "several operators from one", "one operator from each"} {
		if kinds[kind] < 100 {
			t.Errorf("too few of a kind: %v", kinds)
		}
	}
}

// isPossible reports whether at most one fact of each group is true in a set of facts.
func isPossible(groups [][]int, s []int) bool { return !clashes(groups, s) }

// compareTasks plays both tasks side by side, if there are both: each operator is applied to all sets of facts in which at most one fact of each group is true. Of those that are made from it exactly one is applicable if it is, and none otherwise, and the state after is the same.
func compareTasks(t *testing.T, task api.Task, groups [][]int) {
	t.Helper()
	m, origins, f := encode.Multi(task, groups)
	if f != fault(0, 0) {
		return
	}
	for _, s := range subsets(task.Facts) {
		if isPossible(groups, s) {
			compareSteps(t, task, groups, m, origins, s)
		}
	}
}

// compareSteps applies all operators of both tasks to a state.
func compareSteps(t *testing.T, task api.Task, groups [][]int, m api.MultiTask, origins, s []int) {
	t.Helper()
	values, _ := encode.State(task, groups, s)
	var goals []int
	for _, a := range m.Goal {
		goals = append(goals, values[a.Var]-a.Value)
	}
	if isGoal := slices.Equal(common(task.Goal, s), task.Goal); isGoal != slices.Equal(goals, make([]int, len(goals))) {
		t.Errorf("%v with %v: the goals %v and %v differ in the state %v", task, groups, task.Goal, m.Goal, s)
	}
	applicable, _ := strips.Applicable(task, s)
	chosen, _ := multi.Applicable(m, values)
	var from []int
	for _, op := range chosen {
		from = append(from, origins[op])
	}
	if !slices.Equal(from, applicable) {
		t.Errorf("%v with %v in %v: applicable are the operators %v, in %v in the state %v those made from %v", task, groups, s, applicable, m, values, from)
		return
	}
	for i, op := range applicable {
		after, _ := strips.Apply(task, s, op)
		want, f := encode.State(task, groups, after)
		got, _ := multi.Apply(m, values, chosen[i])
		if f != fault(0, 0) || !slices.Equal(got, want) {
			t.Errorf("%v with %v in %v: operator %d leads to %v, %v, %v, in %v to %v", task, groups, s, op, after, want, f, m, got)
		}
	}
}

// some returns each element with a chance in percent.
func some(r *rand.Rand, l []int, chance int) []int {
	return slices.DeleteFunc(slices.Clone(l), func(int) bool { return r.Intn(100) >= chance })
}

// randomOperator returns an operator that moves from one fact of some classes to another, or only deletes facts, and sometimes does something else.
func randomOperator(r *rand.Rand, n int, classes [][]int) api.Operator {
	pre, add, del := map[int]bool{}, map[int]bool{}, map[int]bool{}
	for _, class := range classes {
		one, other := class[r.Intn(len(class))], class[r.Intn(len(class))]
		switch r.Intn(12) {
		case 0, 1, 2:
			pre[one], del[one], add[other] = true, true, true
		case 3:
			pre[one], del[other] = true, true
		case 4:
			add[one] = true
			for _, fact := range class {
				del[fact] = true
			}
		case 5:
			del[one], del[other] = true, true
		case 6:
			pre[one] = true
		}
	}
	if r.Intn(100) < 25 {
		[]map[int]bool{pre, add, del}[r.Intn(3)][r.Intn(n)] = true
	}
	of := func(m map[int]bool) []int {
		return slices.DeleteFunc(upTo(n), func(fact int) bool { return !m[fact] })
	}
	o := api.Operator{Pre: of(pre), Add: of(add), Del: of(del), Cost: r.Intn(api.MaxCost + 1)}
	o.Del = slices.DeleteFunc(o.Del, func(fact int) bool { return add[fact] })
	return o
}

// randomTask returns a task, and a partition of its facts into classes that often are groups.
func randomTask(r *rand.Rand, facts, operators int) (task api.Task, classes [][]int) {
	task = to(with(facts), some(r, upTo(facts), 15)...)
	mixed := r.Perm(facts)
	for len(mixed) > 0 {
		size := min(1+r.Intn(6), len(mixed))
		classes = append(classes, slices.Sorted(slices.Values(mixed[:size])))
		mixed = mixed[size:]
	}
	for _, class := range classes {
		if r.Intn(100) < 70 {
			task.Init = append(task.Init, class[r.Intn(len(class))])
		}
	}
	slices.Sort(task.Init)
	for range r.Intn(operators + 1) {
		task.Operators = append(task.Operators, randomOperator(r, facts, classes))
	}
	return task, classes
}

// randomGroups returns inductive groups of a task in random order, some of which have common facts.
func randomGroups(r *rand.Rand, task api.Task, classes [][]int) [][]int {
	l := slices.Clone(classes)
	for _, class := range classes {
		l = append(l, some(r, class, 60))
	}
	if task.Facts <= 10 {
		found, _ := invariant.Find(task)
		l = append(l, found...)
	}
	l = inductive(task, l)
	r.Shuffle(len(l), func(i, k int) { l[i], l[k] = l[k], l[i] })
	return l[:min(len(l), r.Intn(api.MaxFacts+1))]
}

// TestRandomTasks covers R11.1 to R11.3 for tasks of which all states are examined.
func TestRandomTasks(t *testing.T) {
	r := rand.New(rand.NewSource(1))
	kinds := map[string]int{}
	for range 3000 {
		task, classes := randomTask(r, 1+r.Intn(7), 1+r.Intn(8))
		groups := randomGroups(r, task, classes)
		kinds[expectResults(t, task, groups)]++
		compareTasks(t, task, groups)
		for range 5 {
			expectState(t, task, groups, some(r, upTo(task.Facts), 10+r.Intn(50)))
		}
		if overlap := slices.Concat(groups...); len(slices.Compact(slices.Sorted(slices.Values(overlap)))) < len(overlap) {
			kinds["common facts"]++
		}
	}
	for _, kind := range []string{"too large", "unsolvable", "operators left out", "several operators from one", "one operator from each", "common facts"} {
		if kinds[kind] < 100 {
			t.Errorf("too few of a kind: %v", kinds)
		}
	}
}

// TestRandomLargeTasks covers R11.1 to R11.3 for tasks with many facts and operators.
func TestRandomLargeTasks(t *testing.T) {
	r := rand.New(rand.NewSource(2))
	kinds := map[string]int{}
	for range 1500 {
		task, classes := randomTask(r, 8+r.Intn(api.MaxFacts-7), []int{3, 10, api.MaxOperators}[r.Intn(3)])
		groups := randomGroups(r, task, classes)
		if r.Intn(2) == 0 {
			groups = inductive(task, classes)
		}
		kinds[expectResults(t, task, groups)]++
		for range 5 {
			expectState(t, task, groups, some(r, upTo(task.Facts), 5+r.Intn(20)))
		}
	}
	for _, kind := range []string{"too large", "unsolvable", "several operators from one", "one operator from each"} {
		if kinds[kind] < 50 {
			t.Errorf("too few of a kind: %v", kinds)
		}
	}
}

// randomPlan returns a plan for a task, beginning in its initial state, with the operators of the multi-valued task that are applicable one after the other.
func randomPlan(r *rand.Rand, m api.MultiTask, origins []int) (plan, chosen []int) {
	s := m.Init
	for range r.Intn(api.MaxPlan + 1) {
		ops, _ := multi.Applicable(m, s)
		if len(ops) == 0 {
			break
		}
		op := ops[r.Intn(len(ops))]
		plan, chosen = append(plan, origins[op]), append(chosen, op)
		s, _ = multi.Apply(m, s, op)
	}
	return plan, chosen
}

// TestRandomPlans covers R11.3: plans lead to the same states in both tasks, cost the same in both, and are solutions of both or of neither.
func TestRandomPlans(t *testing.T) {
	r := rand.New(rand.NewSource(3))
	solved, steps := 0, 0
	for range 2000 {
		task, classes := randomTask(r, 1+r.Intn(12), 12)
		groups := randomGroups(r, task, classes)
		m, origins, f := encode.Multi(task, groups)
		if f != fault(0, 0) {
			continue
		}
		plan, chosen := randomPlan(r, m, origins)
		states, f := strips.Play(task, task.Init, plan)
		if f != fault(0, 0) {
			t.Errorf("%v with %v: got %v for the plan %v, made from %v of %v", task, groups, f, plan, chosen, m)
			continue
		}
		values := m.Init
		for i, s := range states {
			if got, f := encode.State(task, groups, s); f != fault(0, 0) || !slices.Equal(got, values) {
				t.Errorf("%v with %v: the plan %v leads to %v, %v, %v, and in %v to %v", task, groups, plan[:i], s, got, f, m, values)
			}
			if i < len(chosen) {
				values, _ = multi.Apply(m, values, chosen[i])
			}
		}
		is, _ := strips.Solves(task, plan)
		alsoIs, _ := multi.Solves(m, chosen)
		cost, _ := strips.Cost(task, plan)
		alsoCost, _ := multi.Cost(m, chosen)
		if is != alsoIs || cost != alsoCost {
			t.Errorf("%v with %v: the plan %v solves %v and costs %d, and %v of %v %v and %d", task, groups, plan, is, cost, chosen, m, alsoIs, alsoCost)
		}
		steps += len(plan)
		if is && len(plan) > 0 && len(task.Goal) > 0 {
			solved++
		}
	}
	if solved < 50 || steps < 10000 {
		t.Errorf("%d plans are solutions, of %d steps", solved, steps)
	}
}

// randomMulti returns a multi-valued task whose values are at most as many as a task can have facts.
func randomMulti(r *rand.Rand) api.MultiTask {
	var m api.MultiTask
	for range 1 + r.Intn(4) {
		m.Sizes = append(m.Sizes, 1+r.Intn(api.MaxValues-1))
	}
	random := func() []api.Assign {
		var l []api.Assign
		for v, size := range m.Sizes {
			if r.Intn(2) == 0 {
				l = append(l, api.Assign{Var: v, Value: r.Intn(size)})
			}
		}
		return l
	}
	for _, size := range m.Sizes {
		m.Init = append(m.Init, r.Intn(size))
	}
	m.Goal = random()
	for range r.Intn(api.MaxOperators + 1) {
		m.Operators = append(m.Operators, api.MultiOperator{Pre: random(), Post: random(), Cost: r.Intn(api.MaxCost + 1)})
	}
	return m
}

// TestValuesOfVariables covers R11.3 for tasks with one fact for each value of some variables: with the values of each variable as a group, the task is the one from which they were made, with one value more for each variable, and without effects that are preconditions.
func TestValuesOfVariables(t *testing.T) {
	r := rand.New(rand.NewSource(4))
	for range 1000 {
		want := randomMulti(r)
		task, _ := multi.Strips(want)
		var groups [][]int
		all := upTo(task.Facts)
		for v, size := range want.Sizes {
			groups, all = append(groups, all[:size]), all[size:]
			want.Sizes[v]++
		}
		for i, o := range want.Operators {
			want.Operators[i].Post = slices.DeleteFunc(o.Post, func(a api.Assign) bool { return slices.Contains(o.Pre, a) })
		}
		got, origins, f := encode.Multi(task, groups)
		if f != fault(0, 0) || fmt.Sprint(got) != fmt.Sprint(want) || !slices.Equal(origins, upTo(len(want.Operators))) {
			t.Errorf("%v: got %v, %v, %v, want %v", task, got, origins, f, want)
		}
	}
}

// TestArbitraryArguments covers Z1 and Z2 for lists of arbitrary numbers: the functions return, with the fault of the task if it has one, and with zero values beside any fault.
func TestArbitraryArguments(t *testing.T) {
	r := rand.New(rand.NewSource(5))
	list := func() []int {
		var l []int
		for range r.Intn(4) {
			l = append(l, r.Intn(6))
		}
		if r.Intn(20) == 0 {
			return append(l, r.Intn(40)-10)
		}
		slices.Sort(l)
		return slices.Compact(l)
	}
	codes := map[int]int{}
	for range 20000 {
		c := call{Task: to(from(with(5+r.Intn(21)), list()...), list()...), State: list()}
		for range r.Intn(3) {
			c.Task.Operators = append(c.Task.Operators, api.Operator{Pre: list(), Add: list(), Del: list(), Cost: r.Intn(103) - 1})
		}
		for range r.Intn(3) {
			c.Groups = append(c.Groups, list())
		}
		invalid := strips.Validate(c.Task)
		for _, f := range functions {
			results, got := f.run(c)
			if invalid != fault(0, 0) && got != invalid || got != fault(0, 0) && !areZero(results) {
				t.Errorf("%s(%v): got %v, %v; the task: %v", f.name, c, results, got, invalid)
			}
			codes[got.Code]++
		}
	}
	for _, code := range ints(api.OK, api.ErrRange, api.ErrMalformed, api.ErrTooLarge, api.ErrConflict, api.ErrUnsolvable, api.ErrUnsafe) {
		if codes[code] < 20 {
			t.Errorf("too few of a code: %v", codes)
		}
	}
}
