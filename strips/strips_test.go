package strips_test

import (
	"slices"
	"testing"

	"helmsman/api"
	"helmsman/strips"
)

func ints(l ...int) []int { return l }

// same reports whether two lists of states are the same.
func same(a, b [][]int) bool { return slices.EqualFunc(a, b, slices.Equal[[]int]) }

// wide returns a task with as many facts and operators as permitted: operator i makes fact i%24 true, and the first three operators need, add and delete the facts at the edges.
func wide() api.Task {
	task := api.Task{Facts: api.MaxFacts, Init: ints(0, 23), Goal: upTo(api.MaxFacts)}
	for i := range api.MaxOperators {
		task.Operators = append(task.Operators, api.Operator{Add: ints(i % api.MaxFacts), Cost: i})
	}
	task.Operators[0] = api.Operator{Pre: ints(0, 23), Add: ints(22), Del: ints(0, 23)}
	task.Operators[1] = api.Operator{Pre: upTo(api.MaxFacts), Del: upTo(api.MaxFacts)}
	task.Operators[2] = api.Operator{Pre: ints(23), Add: upTo(23), Del: ints(23)}
	return task
}

// TestApplicable covers R5.2.
func TestApplicable(t *testing.T) {
	free := api.Task{Facts: 2, Operators: []api.Operator{{}, {Pre: ints(1)}, {Add: ints(0)}, {Pre: ints(0, 1)}}}
	for _, c := range []struct {
		task  api.Task
		state []int
		want  []int
	}{
		{delivery(), ints(rome, sent), ints(drive, load)},
		{delivery(), ints(sent), nil},
		{delivery(), nil, nil},
		{delivery(), ints(bari, sent), ints(back)},
		{delivery(), ints(bari, loaded), ints(unload, back)},
		{delivery(), upTo(5), ints(drive, load, unload, back)},
		{free, nil, ints(0, 2)},
		{free, ints(0), ints(0, 2)},
		{free, ints(1), ints(0, 1, 2)},
		{free, ints(0, 1), ints(0, 1, 2, 3)},
		{api.Task{}, nil, nil},
		{wide(), upTo(api.MaxFacts), upTo(api.MaxOperators)},
		{wide(), nil, upTo(api.MaxOperators)[3:]},
		{wide(), ints(0, 22), upTo(api.MaxOperators)[3:]},
		{wide(), ints(22, 23), upTo(api.MaxOperators)[2:]},
	} {
		got, f := strips.Applicable(c.task, c.state)
		if f != fault(0, 0) || !slices.Equal(got, c.want) {
			t.Errorf("%v: got %v, %v, want %v", c.state, got, f, c.want)
		}
	}
}

// TestApply covers R5.3.
func TestApply(t *testing.T) {
	effects := api.Task{Facts: 4, Operators: []api.Operator{
		{Pre: ints(0), Add: ints(0)},
		{Add: ints(2, 3), Del: ints(0)},
		{Pre: ints(0), Del: ints(0)},
		{},
		{Pre: ints(1), Add: ints(0), Del: ints(2, 3)},
	}}
	for _, c := range []struct {
		task  api.Task
		state []int
		op    int
		want  []int
		fault api.Fault
	}{
		{delivery(), ints(rome, sent), drive, ints(bari, sent), fault(0, 0)},
		{delivery(), ints(rome, sent), load, ints(rome, loaded), fault(0, 0)},
		{delivery(), ints(bari, loaded), unload, ints(bari, delivered), fault(0, 0)},
		{delivery(), ints(bari, delivered), back, ints(rome, delivered), fault(0, 0)},
		{delivery(), ints(rome, sent), unload, nil, fault(api.ErrState, unload)},
		{delivery(), ints(rome), load, nil, fault(api.ErrState, load)},
		{delivery(), ints(sent), load, nil, fault(api.ErrState, load)},
		{delivery(), nil, drive, nil, fault(api.ErrState, drive)},
		{effects, ints(0, 1), 0, ints(0, 1), fault(0, 0)},
		{effects, ints(0, 1), 1, ints(1, 2, 3), fault(0, 0)},
		{effects, ints(1, 2), 1, ints(1, 2, 3), fault(0, 0)},
		{effects, nil, 1, ints(2, 3), fault(0, 0)},
		{effects, ints(0), 2, nil, fault(0, 0)},
		{effects, ints(1, 3), 3, ints(1, 3), fault(0, 0)},
		{effects, nil, 3, nil, fault(0, 0)},
		{effects, ints(1, 2), 4, ints(0, 1), fault(0, 0)},
		{wide(), ints(0, 23), 0, ints(22), fault(0, 0)},
		{wide(), upTo(23), 0, nil, fault(api.ErrState, 0)},
		{wide(), upTo(24), 1, nil, fault(0, 0)},
		{wide(), ints(23), 2, upTo(23), fault(0, 0)},
		{wide(), upTo(23), 23, upTo(24), fault(0, 0)},
		{wide(), nil, 39, ints(15), fault(0, 0)},
	} {
		got, f := strips.Apply(c.task, c.state, c.op)
		if f != c.fault || !slices.Equal(got, c.want) {
			t.Errorf("%d in %v: got %v, %v, want %v, %v", c.op, c.state, got, f, c.want, c.fault)
		}
	}
}

// TestPlay covers R5.4.
func TestPlay(t *testing.T) {
	for _, c := range []struct {
		task  api.Task
		state []int
		plan  []int
		want  [][]int
		fault api.Fault
	}{
		{delivery(), ints(rome, sent), nil, [][]int{{rome, sent}}, fault(0, 0)},
		{delivery(), ints(loaded), nil, [][]int{{loaded}}, fault(0, 0)},
		{delivery(), nil, nil, [][]int{nil}, fault(0, 0)},
		{api.Task{}, nil, nil, [][]int{nil}, fault(0, 0)},
		{delivery(), ints(rome, sent), ints(load, drive, unload, back), [][]int{{rome, sent}, {rome, loaded}, {bari, loaded}, {bari, delivered}, {rome, delivered}}, fault(0, 0)},
		{delivery(), ints(bari, loaded), ints(unload), [][]int{{bari, loaded}, {bari, delivered}}, fault(0, 0)},
		{delivery(), ints(bari), ints(back, drive, back), [][]int{{bari}, {rome}, {bari}, {rome}}, fault(0, 0)},
		{delivery(), ints(rome, sent), ints(unload), nil, fault(api.ErrState, 0)},
		{delivery(), ints(rome, sent), ints(unload, unload), nil, fault(api.ErrState, 0)},
		{delivery(), ints(rome, sent), ints(load, drive, drive), nil, fault(api.ErrState, 2)},
		{delivery(), ints(rome, sent), ints(load, drive, drive, back), nil, fault(api.ErrState, 2)},
		{delivery(), ints(rome, loaded), ints(load, drive), nil, fault(api.ErrState, 0)},
		{wide(), ints(23), ints(2, 23, 1), [][]int{{23}, upTo(23), upTo(24), nil}, fault(0, 0)},
	} {
		got, f := strips.Play(c.task, c.state, c.plan)
		if f != c.fault || !same(got, c.want) {
			t.Errorf("%v in %v: got %v, %v, want %v, %v", c.plan, c.state, got, f, c.want, c.fault)
		}
	}
}

// TestLongestPlay covers R5.4 for as many steps as permitted, of which the last one is applicable or not.
func TestLongestPlay(t *testing.T) {
	plan := slices.Repeat(ints(drive, back), api.MaxPlan/2)
	got, f := strips.Play(delivery(), ints(rome), plan)
	want := append(slices.Repeat([][]int{{rome}, {bari}}, api.MaxPlan/2), ints(rome))
	if f != fault(0, 0) || !same(got, want) {
		t.Errorf("got %v, %v", got, f)
	}
	plan[api.MaxPlan-1] = drive
	if got, f := strips.Play(delivery(), ints(rome), plan); f != fault(api.ErrState, api.MaxPlan-1) || got != nil {
		t.Errorf("got %v, %v", got, f)
	}
}

// TestSolves covers R5.5.
func TestSolves(t *testing.T) {
	easy, done, free, from := delivery(), delivery(), delivery(), delivery()
	easy.Goal = ints(loaded)
	done.Goal = ints(rome, sent)
	free.Goal = nil
	from.Init = ints(bari, loaded, delivered)
	longest := slices.Repeat(ints(drive, back), api.MaxPlan/2)
	for _, c := range []struct {
		task api.Task
		plan []int
		want bool
	}{
		{delivery(), ints(load, drive, unload, back), true},
		{delivery(), ints(load, drive, unload, back, drive, back), true},
		{delivery(), ints(load, drive, unload), false},
		{delivery(), ints(load, drive, unload, back, drive), false},
		{delivery(), nil, false},
		{delivery(), ints(drive, load, unload, back), false},
		{delivery(), ints(load, drive, unload, back, unload), false},
		{delivery(), ints(unload, load, drive, unload, back), false},
		{easy, ints(load), true},
		{easy, ints(load, load), false},
		{easy, ints(load, drive), true},
		{done, nil, true},
		{done, ints(drive), false},
		{done, ints(drive, back), true},
		{done, ints(back), false},
		{done, longest, true},
		{done, append(ints(load), longest[1:]...), false},
		{free, nil, true},
		{free, ints(load), true},
		{free, ints(unload), false},
		{free, ints(load, unload), false},
		{from, nil, false},
		{from, ints(back), true},
		{api.Task{}, nil, true},
		{api.Task{Facts: 1, Goal: ints(0)}, nil, false},
		{wide(), ints(1), false},
		{wide(), append(ints(2), upTo(24)[3:]...), true},
		{wide(), append(ints(2), upTo(23)[3:]...), false},
	} {
		got, f := strips.Solves(c.task, c.plan)
		if f != fault(0, 0) || got != c.want {
			t.Errorf("%v for %v: got %v, %v, want %v", c.plan, c.task.Goal, got, f, c.want)
		}
	}
}

// TestCost covers R5.6: the steps need not be applicable.
func TestCost(t *testing.T) {
	dear := api.Task{Operators: []api.Operator{{Cost: 0}, {Cost: api.MaxCost}}}
	for _, c := range []struct {
		task api.Task
		plan []int
		want int
	}{
		{delivery(), nil, 0},
		{api.Task{}, nil, 0},
		{delivery(), ints(load), 1},
		{delivery(), ints(load, drive, unload, back), 9},
		{delivery(), ints(unload, unload, unload), 6},
		{delivery(), ints(back, back, load), 7},
		{dear, repeat(0, api.MaxPlan), 0},
		{dear, repeat(1, api.MaxPlan), 6000},
		{dear, ints(1, 0, 1), 200},
		{wide(), ints(39, 38, 3), 80},
	} {
		got, f := strips.Cost(c.task, c.plan)
		if f != fault(0, 0) || got != c.want {
			t.Errorf("%v: got %v, %v, want %v", c.plan, got, f, c.want)
		}
	}
}

// TestRegress covers R5.7.
func TestRegress(t *testing.T) {
	small := api.Task{Facts: 4, Operators: []api.Operator{
		{Pre: ints(0), Add: ints(1)},
		{Pre: ints(0, 2), Add: ints(1, 3), Del: ints(0)},
		{},
		{Pre: ints(3), Add: ints(3), Del: ints(1)},
		{Add: ints(0, 1, 2, 3)},
	}}
	for _, c := range []struct {
		task api.Task
		goal []int
		op   int
		want []int
		ok   bool
	}{
		{small, ints(1), 0, ints(0), true},
		{small, nil, 0, ints(0), true},
		{small, ints(1, 3), 0, ints(0, 3), true},
		{small, ints(0, 1, 2, 3), 0, ints(0, 2, 3), true},
		{small, ints(1, 3), 1, ints(0, 2), true},
		{small, ints(2), 1, ints(0, 2), true},
		{small, ints(0), 1, nil, false},
		{small, ints(0, 1, 3), 1, nil, false},
		{small, nil, 2, nil, true},
		{small, ints(1, 2), 2, ints(1, 2), true},
		{small, ints(3), 3, ints(3), true},
		{small, ints(2), 3, ints(2, 3), true},
		{small, ints(1, 3), 3, nil, false},
		{small, ints(0, 1, 2, 3), 4, nil, true},
		{delivery(), ints(rome, delivered), back, ints(bari, delivered), true},
		{delivery(), ints(bari, delivered), unload, ints(bari, loaded), true},
		{delivery(), ints(bari, loaded), drive, ints(rome, loaded), true},
		{delivery(), ints(rome, loaded), load, ints(rome, sent), true},
		{delivery(), ints(rome, delivered), drive, nil, false},
		{wide(), ints(22), 0, ints(0, 23), true},
		{wide(), ints(0, 22), 0, nil, false},
		{wide(), ints(22, 23), 0, nil, false},
		{wide(), upTo(24), 23, upTo(23), true},
		{wide(), nil, 1, upTo(24), true},
		{wide(), upTo(24), 39, slices.Concat(upTo(15), upTo(24)[16:]), true},
	} {
		got, ok, f := strips.Regress(c.task, c.goal, c.op)
		if f != fault(0, 0) || ok != c.ok || !slices.Equal(got, c.want) {
			t.Errorf("%v over %d: got %v, %v, %v, want %v, %v", c.goal, c.op, got, ok, f, c.want, c.ok)
		}
	}
}
