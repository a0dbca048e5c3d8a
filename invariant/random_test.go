package invariant_test

import (
	"fmt"
	"math/bits"
	"math/rand"
	"slices"
	"testing"

	"helmsman/api"
	"helmsman/invariant"
	"helmsman/multi"
	"helmsman/strips"
)

// number returns the number of a set of facts, in which bit i tells whether fact i is in it.
func number(facts []int) int {
	n := 0
	for _, fact := range facts {
		n += 1 << fact
	}
	return n
}

// facts returns the set with a number.
func facts(n int) []int {
	var l []int
	for fact := range 64 {
		if n>>fact&1 == 1 {
			l = append(l, fact)
		}
	}
	return l
}

// numbers returns the numbers of all sets of n facts.
func numbers(n int) []int { return upTo(1 << n) }

// keeps reports whether an operator leads from no set in which at most one fact of a group is true to one with more, by the text of the document.
func keeps(o api.Operator, group int, sets []int) bool {
	pre, add, del := number(o.Pre), number(o.Add), number(o.Del)
	for _, s := range sets {
		applicable := s&pre == pre
		after := s&^del | add
		if applicable && bits.OnesCount(uint(s&group)) <= 1 && bits.OnesCount(uint(after&group)) > 1 {
			return false
		}
	}
	return true
}

// inductive is the result of Inductive by the text of the document, if the given sets of facts before an operator are enough.
func inductive(task api.Task, group int, sets []int) bool {
	if bits.OnesCount(uint(number(task.Init)&group)) > 1 {
		return false
	}
	for _, o := range task.Operators {
		if !keeps(o, group, sets) {
			return false
		}
	}
	return true
}

// found is the result of Find by the text of the document.
func found(task api.Task) [][]int {
	var groups []int
	for group := range 1 << task.Facts {
		if inductive(task, group, numbers(task.Facts)) {
			groups = append(groups, group)
		}
	}
	var l [][]int
	for _, group := range groups {
		larger := func(g int) bool { return g != group && g&group == group }
		if bits.OnesCount(uint(group)) >= 2 && !slices.ContainsFunc(groups, larger) {
			l = append(l, facts(group))
		}
	}
	slices.SortFunc(l, slices.Compare[[]int])
	return l
}

// TestSmallOperators covers R10.1 for all operators over four facts and all groups of them.
func TestSmallOperators(t *testing.T) {
	valid, sets := 0, numbers(4)
	for _, pre := range sets {
		for _, add := range sets {
			for _, del := range sets {
				task := with(4, api.Operator{Pre: facts(pre), Add: facts(add), Del: facts(del)})
				if add&del != 0 {
					continue
				}
				valid++
				for _, group := range sets {
					want := inductive(task, group, sets)
					if got, f := invariant.Inductive(task, facts(group)); f != fault(0, 0) || got != want {
						t.Errorf("%v for %v: got %v, %v, want %v", facts(group), task, got, f, want)
					}
				}
			}
		}
	}
	// Each fact is a precondition or not, and added, deleted or neither.
	if valid != 6*6*6*6 {
		t.Errorf("%d operators are valid", valid)
	}
}

// TestSmallStates covers R10.1 and R10.2 for all initial states of five facts without operators: of a largest group, all facts but one are false initially.
func TestSmallStates(t *testing.T) {
	for _, init := range numbers(5) {
		task := from(with(5), facts(init)...)
		for _, group := range numbers(5) {
			want := bits.OnesCount(uint(init&group)) <= 1
			if got, f := invariant.Inductive(task, facts(group)); f != fault(0, 0) || got != want {
				t.Errorf("%v for the initial state %v: got %v, %v", facts(group), facts(init), got, f)
			}
		}
		if got, f := invariant.Find(task); f != fault(0, 0) || !same(got, found(task)) {
			t.Errorf("the initial state %v: got %v, %v, want %v", facts(init), got, f, found(task))
		}
	}
}

// some returns each fact with a chance in percent.
func some(r *rand.Rand, facts []int, chance int) []int {
	return slices.DeleteFunc(slices.Clone(facts), func(int) bool { return r.Intn(100) >= chance })
}

// randomOperator returns an operator that moves from one fact of some classes to another, and sometimes does something else.
func randomOperator(r *rand.Rand, n int, classes [][]int) api.Operator {
	pre, add, del := map[int]bool{}, map[int]bool{}, map[int]bool{}
	for _, class := range classes {
		if r.Intn(100) < 60 {
			from, to := class[r.Intn(len(class))], class[r.Intn(len(class))]
			pre[from], del[from], add[to] = true, true, true
		}
	}
	if r.Intn(100) < 20 {
		[]map[int]bool{pre, add, del}[r.Intn(3)][r.Intn(n)] = true
	}
	if r.Intn(100) < 20 {
		delete([]map[int]bool{pre, add, del}[r.Intn(3)], r.Intn(n))
	}
	of := func(m map[int]bool) []int {
		return slices.DeleteFunc(upTo(n), func(fact int) bool { return !m[fact] })
	}
	o := api.Operator{Pre: of(pre), Add: of(add), Del: of(del), Cost: r.Intn(5)}
	o.Del = slices.DeleteFunc(o.Del, func(fact int) bool { return add[fact] })
	return o
}

// randomTask returns a task over n facts, and classes of them that often are groups.
func randomTask(r *rand.Rand, n, operators int) (task api.Task, classes [][]int) {
	task = api.Task{Facts: n, Goal: some(r, upTo(n), 20)}
	mixed := r.Perm(n)
	for len(mixed) > 0 {
		size := 1 + r.Intn(len(mixed))
		classes = append(classes, mixed[:size])
		mixed = mixed[size:]
	}
	for _, class := range classes {
		if r.Intn(100) < 80 {
			task.Init = append(task.Init, class[0])
		}
	}
	slices.Sort(task.Init)
	for range r.Intn(operators + 1) {
		task.Operators = append(task.Operators, randomOperator(r, n, classes))
	}
	return task, classes
}

// TestRandomTasks covers R10.1 and R10.2 for tasks of which all sets of facts are examined.
func TestRandomTasks(t *testing.T) {
	r := rand.New(rand.NewSource(1))
	kinds := map[string]int{}
	for range 2000 {
		task, _ := randomTask(r, 1+r.Intn(6), 8)
		for _, group := range numbers(task.Facts) {
			want := inductive(task, group, numbers(task.Facts))
			if got, f := invariant.Inductive(task, facts(group)); f != fault(0, 0) || got != want {
				t.Errorf("%v for %v: got %v, %v, want %v", facts(group), task, got, f, want)
			}
			kinds[fmt.Sprint(want)]++
		}
		want := found(task)
		if got, f := invariant.Find(task); f != fault(0, 0) || !same(got, want) {
			t.Errorf("%v: got %v, %v, want %v", task, got, f, want)
		}
		kinds[fmt.Sprint(min(len(want), 3), " groups")]++
		for _, group := range want {
			kinds[fmt.Sprint(len(group), " facts")]++
		}
	}
	for _, kind := range []string{"true", "false", "0 groups", "1 groups", "2 groups", "3 groups", "2 facts", "3 facts", "4 facts", "5 facts", "6 facts"} {
		if kinds[kind] < 30 {
			t.Errorf("too few of a kind: %v", kinds)
		}
	}
}

// TestRandomFind covers R10.2 for tasks with the most facts.
func TestRandomFind(t *testing.T) {
	r := rand.New(rand.NewSource(2))
	several := 0
	for range 40 {
		task, _ := randomTask(r, 10, 12)
		want := found(task)
		if got, f := invariant.Find(task); f != fault(0, 0) || !same(got, want) {
			t.Errorf("%v: got %v, %v, want %v", task, got, f, want)
		}
		if len(want) > 1 {
			several++
		}
	}
	if several < 10 {
		t.Errorf("%d tasks have several groups", several)
	}
}

// edges returns the sets of the preconditions of an operator and at most one fact more. Whether two facts of a group are true after an operator depends on the fact of the group that is true before, so these sets are enough.
func edges(task api.Task) []int {
	var sets []int
	for _, o := range task.Operators {
		sets = append(sets, number(o.Pre))
		for fact := range task.Facts {
			sets = append(sets, number(o.Pre)|1<<fact)
		}
	}
	return sets
}

// TestRandomLargeTasks covers R10.1 for tasks with the most facts and operators.
func TestRandomLargeTasks(t *testing.T) {
	r := rand.New(rand.NewSource(3))
	kinds := map[string]int{}
	for range 500 {
		task, classes := randomTask(r, api.MaxFacts, []int{3, 10, api.MaxOperators}[r.Intn(3)])
		sets := edges(task)
		class := slices.Sorted(slices.Values(classes[r.Intn(len(classes))]))
		for _, group := range [][]int{class, some(r, class, 80), some(r, upTo(api.MaxFacts), 8)} {
			want := inductive(task, number(group), sets)
			if got, f := invariant.Inductive(task, group); f != fault(0, 0) || got != want {
				t.Errorf("%v for %v: got %v, %v, want %v", group, task, got, f, want)
			}
			kinds[fmt.Sprint(want, " for ", min(len(group), 4))]++
		}
	}
	for _, kind := range []string{"true for 0", "true for 1", "true for 2", "true for 3", "true for 4", "false for 2", "false for 3", "false for 4"} {
		if kinds[kind] < 20 {
			t.Errorf("too few of a kind: %v", kinds)
		}
	}
}

// TestReachedStates covers what the groups of R10.1 and R10.2 are for: in no state that a plan reaches, two facts of a group are true.
func TestReachedStates(t *testing.T) {
	r := rand.New(rand.NewSource(4))
	states := 0
	for range 500 {
		task, _ := randomTask(r, 2+r.Intn(7), 10)
		groups, _ := invariant.Find(task)
		s := task.Init
		for range 30 {
			ops, _ := strips.Applicable(task, s)
			if len(ops) == 0 {
				break
			}
			s, _ = strips.Apply(task, s, ops[r.Intn(len(ops))])
			states++
			for _, group := range groups {
				if is, _ := invariant.Inductive(task, group); !is || bits.OnesCount(uint(number(s)&number(group))) > 1 {
					t.Errorf("%v: the group %v in the state %v; it is inductive: %v", task, group, s, is)
				}
			}
		}
	}
	if states < 5000 {
		t.Errorf("%d states were reached", states)
	}
}

// randomMulti returns a multi-valued task with 4 variables and at most 24 values.
func randomMulti(r *rand.Rand) api.MultiTask {
	assigns := func(sizes []int) []api.Assign {
		var l []api.Assign
		for v, size := range sizes {
			if r.Intn(2) == 0 {
				l = append(l, api.Assign{Var: v, Value: r.Intn(size)})
			}
		}
		return l
	}
	m := api.MultiTask{}
	for range 4 {
		m.Sizes = append(m.Sizes, 1+r.Intn(6))
	}
	for _, size := range m.Sizes {
		m.Init = append(m.Init, r.Intn(size))
	}
	for range r.Intn(api.MaxOperators) {
		m.Operators = append(m.Operators, api.MultiOperator{Pre: assigns(m.Sizes), Post: assigns(m.Sizes)})
	}
	return m
}

// TestValuesOfVariables covers R10.1 for tasks with one fact for each value of some variables: those of a variable form a group, and so do those of one value only.
func TestValuesOfVariables(t *testing.T) {
	r := rand.New(rand.NewSource(5))
	for range 500 {
		m := randomMulti(r)
		task, _ := multi.Strips(m)
		all := upTo(task.Facts)
		for _, size := range m.Sizes {
			group := all[:size:size]
			all = all[size:]
			if is, f := invariant.Inductive(task, group); f != fault(0, 0) || !is {
				t.Errorf("%v for %v: got %v, %v", group, task, is, f)
			}
			if is, f := invariant.Inductive(task, group[:1]); f != fault(0, 0) || !is {
				t.Errorf("%v for %v: got %v, %v", group[:1], task, is, f)
			}
		}
	}
}
