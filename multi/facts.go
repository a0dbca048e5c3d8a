package multi

import "helmsman/api"

// Strips returns the task with one fact per value.
func Strips(m api.MultiTask) (api.Task, api.Fault) {
	if f := Validate(m); f != (api.Fault{}) {
		return api.Task{}, f
	}
	first, facts := firstFacts(m.Sizes)
	if facts > api.MaxFacts {
		return api.Task{}, api.Fault{Code: api.ErrTooLarge, Index: -8}
	}
	// Facts are numbered by variable first, so the facts of increasing variables are increasing.
	given := func(l []api.Assign) []int {
		var facts []int
		for _, a := range l {
			facts = append(facts, first[a.Var]+a.Value)
		}
		return facts
	}
	others := func(l []api.Assign) []int {
		var facts []int
		for _, a := range l {
			for value := range m.Sizes[a.Var] {
				if value != a.Value {
					facts = append(facts, first[a.Var]+value)
				}
			}
		}
		return facts
	}
	t := api.Task{Facts: facts, Goal: given(m.Goal)}
	for v, value := range m.Init {
		t.Init = append(t.Init, first[v]+value)
	}
	for _, o := range m.Operators {
		t.Operators = append(t.Operators, api.Operator{Pre: given(o.Pre), Add: given(o.Post), Del: others(o.Post), Cost: o.Cost})
	}
	return t, api.Fault{}
}

// firstFacts returns the fact of the value 0 of each variable, and the number of all facts.
func firstFacts(sizes []int) (first []int, facts int) {
	for _, size := range sizes {
		first = append(first, facts)
		facts += size
	}
	return first, facts
}
