package numeric_test

import (
	"math/rand"
	"slices"
	"testing"

	"helmsman/api"
	"helmsman/numeric"
)

// total is the sum of factors for a list of values.
func total(factors, v []int) int {
	n := 0
	for i := range v {
		n += factors[i] * v[i]
	}
	return n
}

// holds reports whether comparisons are true.
func holds(comparisons []api.Comparison, v []int) bool {
	for _, c := range comparisons {
		if n := total(c.Factors, v); c.Kind == api.CompareEqual && n != c.Bound || n < c.Bound {
			return false
		}
	}
	return true
}

// next returns the values after an operator by the text of the document, or the code of Apply.
func next(o api.NumericOperator, v []int) ([]int, int) {
	if !holds(o.Pre, v) {
		return nil, api.ErrState
	}
	var l []int
	for i, n := range v {
		for _, c := range o.Changes {
			if c.Var == i {
				n = total(c.Factors, v) + c.Constant
			}
		}
		if n > api.MaxNumber || n < -api.MaxNumber {
			return nil, api.ErrTooLarge
		}
		l = append(l, n)
	}
	return l, api.OK
}

// corners returns the lists of values each of which is an end of its interval.
func corners(bounds [][2]int) [][]int {
	l := [][]int{nil}
	for _, b := range bounds {
		var longer [][]int
		for _, v := range l {
			longer = append(longer, append(slices.Clip(v), b[0]), append(slices.Clip(v), b[1]))
		}
		l = longer
	}
	return l
}

// ends returns the smallest and the greatest sum, which are those of some corners.
func ends(factors []int, corners [][]int) (int, int) {
	var sums []int
	for _, v := range corners {
		sums = append(sums, total(factors, v))
	}
	return slices.Min(sums), slices.Max(sums)
}

// wider returns the intervals after one more step by the text of the document.
func wider(task api.NumericTask, before [][2]int) [][2]int {
	after := slices.Clone(before)
	all := corners(before)
	for _, o := range task.Operators {
		possible := true
		for _, c := range o.Pre {
			low, high := ends(c.Factors, all)
			possible = possible && high >= c.Bound && (c.Kind == api.CompareAtLeast || low <= c.Bound)
		}
		for _, c := range o.Changes {
			if low, high := ends(c.Factors, all); possible {
				b := &after[c.Var]
				b[0] = max(-api.MaxNumber, min(b[0], low+c.Constant))
				b[1] = min(api.MaxNumber, max(b[1], high+c.Constant))
			}
		}
	}
	return after
}

// source draws the numbers of tasks.
type source struct {
	*rand.Rand
	large bool
}

// around returns a number from -limit to limit, most of which are small unless the source is a large one.
func (r source) around(limit int) int {
	if !r.large || r.Intn(2) == 0 {
		limit = 3
	}
	return r.Intn(2*limit+1) - limit
}

func (r source) list(n, limit int) []int {
	var l []int
	for range n {
		l = append(l, r.around(limit))
	}
	return l
}

func (r source) comparisons(n, most int) []api.Comparison {
	var l []api.Comparison
	for range r.Intn(most + 1) {
		l = append(l, api.Comparison{Factors: r.list(n, api.MaxMultiple), Kind: 1 + r.Intn(8)/7, Bound: r.around(api.MaxNumber)})
	}
	return l
}

// task returns a valid task.
func (r source) task() api.NumericTask {
	n := 1 + r.Intn(4)
	if r.large {
		n = 1 + r.Intn(api.MaxVariables)
	}
	task := api.NumericTask{Init: r.list(n, api.MaxNumber), Goal: r.comparisons(n, 1)}
	for range 1 + r.Intn(5) {
		o := api.NumericOperator{Pre: r.comparisons(n, 2), Cost: r.Intn(api.MaxCost + 1)}
		for i := range n {
			if r.Intn(3) == 0 {
				o.Changes = append(o.Changes, api.Change{Var: i, Factors: r.list(n, api.MaxMultiple), Constant: r.around(api.MaxMultiple)})
			}
		}
		task.Operators = append(task.Operators, o)
	}
	return task
}

// checkRun plays a plan step by step, and counts how it ends.
func checkRun(t *testing.T, task api.NumericTask, plan []int, kinds map[string]int) {
	t.Helper()
	v, kind := task.Init, "goal not reached"
	for i, op := range plan {
		want, code := next(task.Operators[op], v)
		wantFault := fault(0, 0)
		if code != api.OK {
			wantFault = fault(code, op)
		}
		got, f := numeric.Apply(task, v, op)
		if f != wantFault || !slices.Equal(got, want) {
			t.Errorf("Apply(%v, %v, %d): got %v, %v, want %v, %v", task, v, op, got, f, want, wantFault)
		}
		if code == api.ErrState {
			kind = "not applicable"
		} else if code == api.ErrTooLarge {
			kind = "too large"
		}
		if code != api.OK {
			break
		}
		v = want
		if i == len(plan)-1 && holds(task.Goal, v) {
			kind = "solution"
		}
	}
	kinds[kind]++
	if got, f := numeric.Solves(task, plan); f != fault(0, 0) || got != (kind == "solution") {
		t.Errorf("Solves(%v, %v): got %v, %v, want %s", task, plan, got, f, kind)
	}
}

// randomPlan returns a plan most steps of which can be applied one after the other.
func (r source) randomPlan(task api.NumericTask) []int {
	var plan []int
	v := task.Init
	for len(plan) == 0 || len(plan) < api.MaxPlan && r.Intn(5) > 0 {
		op := r.Intn(len(task.Operators))
		after, code := next(task.Operators[op], v)
		if code == api.OK {
			v = after
		} else if r.Intn(3) > 0 {
			continue
		}
		plan = append(plan, op)
	}
	return plan
}

// TestRandomPlans covers R8.1 to R8.3 for random tasks with small and with large numbers.
func TestRandomPlans(t *testing.T) {
	for _, c := range []struct {
		large bool
		kinds []string // which plans have to be among the random ones
	}{
		{false, []string{"solution", "goal not reached", "not applicable"}},
		{true, []string{"solution", "goal not reached", "not applicable", "too large"}},
	} {
		r := source{rand.New(rand.NewSource(8)), c.large}
		kinds := map[string]int{}
		for range 4000 {
			task := r.task()
			if f := numeric.Validate(task); f != fault(0, 0) {
				t.Fatalf("%v: %v", task, f)
			}
			checkRun(t, task, r.randomPlan(task), kinds)
		}
		for _, kind := range c.kinds {
			if kinds[kind] < 100 {
				t.Errorf("too few of a kind: %v", kinds)
			}
		}
	}
}

// TestRandomBounds covers R8.4: the intervals after each number of steps are those of the text of the document.
func TestRandomBounds(t *testing.T) {
	for _, large := range []bool{false, true} {
		r := source{rand.New(rand.NewSource(9)), large}
		inner, limited := 0, 0
		for range 1000 {
			task := r.task()
			var want [][2]int
			for _, n := range task.Init {
				want = append(want, [2]int{n, n})
			}
			for steps := range 6 {
				got, f := numeric.Bounds(task, steps)
				if f != fault(0, 0) || !slices.Equal(got, want) {
					t.Errorf("Bounds(%v, %d): got %v, %v, want %v", task, steps, got, f, want)
				}
				for i, b := range want {
					if b[0] == -api.MaxNumber || b[1] == api.MaxNumber {
						limited++
					} else if b[0] < task.Init[i] || b[1] > task.Init[i] {
						inner++
					}
				}
				want = wider(task, want)
			}
		}
		if inner < 500 || large && limited < 500 {
			t.Errorf("%d intervals are extended, and %d to a limit", inner, limited)
		}
	}
}

// TestReachedValues covers R8.4: the intervals contain all values that can be reached, one step at a time.
func TestReachedValues(t *testing.T) {
	for _, large := range []bool{false, true} {
		r := source{rand.New(rand.NewSource(10)), large}
		for range 500 {
			task := r.task()
			reached := [][]int{task.Init}
			for steps := range 5 {
				bounds, _ := numeric.Bounds(task, steps)
				for _, v := range reached {
					for i, n := range v {
						if n < bounds[i][0] || n > bounds[i][1] {
							t.Fatalf("Bounds(%v, %d): got %v without %v", task, steps, bounds, v)
						}
					}
				}
				for _, v := range reached {
					for op := range task.Operators {
						if after, f := numeric.Apply(task, v, op); f == fault(0, 0) {
							reached = append(reached, after)
						}
					}
				}
				slices.SortFunc(reached, slices.Compare[[]int])
				reached = slices.CompactFunc(reached, slices.Equal[[]int])
				if len(reached) > 300 {
					break
				}
			}
		}
	}
}
