package encode

import (
	"slices"

	"helmsman/api"
)

// Multi returns the multi-valued task over the classes, and for each of its operators the operator of t.
func Multi(t api.Task, groups [][]int) (api.MultiTask, []int, api.Fault) {
	classes, f := Cover(t, groups)
	if f != (api.Fault{}) {
		return api.MultiTask{}, nil, f
	}
	isLarge := func(class []int) bool { return len(class) >= api.MaxValues }
	if len(classes) == 0 || len(classes) > api.MaxVariables || slices.ContainsFunc(classes, isLarge) {
		return api.MultiTask{}, nil, api.Fault{Code: api.ErrTooLarge, Index: -9}
	}
	goal, ok := assignments(classes, t.Goal)
	if !ok {
		return api.MultiTask{}, nil, api.Fault{Code: api.ErrUnsolvable, Index: -9}
	}
	operators, origins, ok := operatorsOf(t.Operators, classes)
	if !ok {
		return api.MultiTask{}, nil, api.Fault{Code: api.ErrTooLarge, Index: -9}
	}
	m := api.MultiTask{Goal: goal, Operators: operators}
	for _, class := range classes {
		m.Sizes = append(m.Sizes, len(class)+1)
	}
	m.Init, _ = state(classes, t.Init) // inductive groups have at most one fact in Init, and so have their parts
	return m, origins, api.Fault{}
}

// operatorsOf returns the operators of the multi-valued task and for each of them the one from which it was made. It reports false if there would be too many.
func operatorsOf(given []api.Operator, classes [][]int) (operators []api.MultiOperator, origins []int, ok bool) {
	for i, o := range given {
		roles, isPossible := rolesOf(o, classes)
		if !isPossible {
			continue
		}
		// They are counted before they are made, as there can be 4^8 of them.
		if len(operators)+numberOf(roles) > api.MaxOperators {
			return nil, nil, false
		}
		for _, before := range combinations(roles) {
			operators = append(operators, under(roles, before, o.Cost))
			origins = append(origins, i)
		}
	}
	return operators, origins, true
}

// unknown stands for the value of a class of which nothing is assumed.
const unknown = -1

// role is the role of a class in an operator: the values that are assumed before it, each in its turn, and the value after it, which is the same as before if the operator does not change it.
type role struct {
	assumed []int
	after   func(before int) int
}

// rolesOf returns the roles of all classes in an operator. It reports false if the operator is left out.
func rolesOf(o api.Operator, classes [][]int) ([]role, bool) {
	var roles []role
	for _, class := range classes {
		r, ok := roleOf(o, class)
		if !ok {
			return nil, false
		}
		roles = append(roles, r)
	}
	return roles, true
}

// roleOf returns the role of a class in an operator. It reports false if two facts of the class are needed, or two are added.
func roleOf(o api.Operator, class []int) (role, bool) {
	needed, added, deleted := valuesOf(class, o.Pre), valuesOf(class, o.Add), valuesOf(class, o.Del)
	none := len(class)
	after := func(before int) int {
		switch {
		case len(added) > 0:
			return added[0]
		case slices.Contains(deleted, before):
			return none
		}
		return before
	}
	switch {
	case len(needed) > 1 || len(added) > 1:
		return role{}, false
	case len(needed) > 0:
		return role{needed, after}, true
	case len(added) == 0 && len(deleted) > 0:
		return role{firstNumbers(none + 1), after}, true
	}
	return role{[]int{unknown}, after}, true
}

// firstNumbers returns the numbers from 0 to below n.
func firstNumbers(n int) []int {
	var l []int
	for i := range n {
		l = append(l, i)
	}
	return l
}

// numberOf returns the number of the combinations of assumptions.
func numberOf(roles []role) int {
	n := 1
	for _, r := range roles {
		n *= len(r.assumed)
	}
	return n
}

// combinations returns all lists with one assumption of each role, in lexicographic order.
func combinations(roles []role) [][]int {
	all := [][]int{nil}
	for _, r := range roles {
		var longer [][]int
		for _, start := range all {
			for _, value := range r.assumed {
				longer = append(longer, append(slices.Clone(start), value))
			}
		}
		all = longer
	}
	return all
}

// under returns the operator under the assumption that the classes have the given values before it.
func under(roles []role, before []int, cost int) api.MultiOperator {
	o := api.MultiOperator{Cost: cost}
	for v, r := range roles {
		if before[v] != unknown {
			o.Pre = append(o.Pre, api.Assign{Var: v, Value: before[v]})
		}
		if after := r.after(before[v]); after != before[v] {
			o.Post = append(o.Post, api.Assign{Var: v, Value: after})
		}
	}
	return o
}
