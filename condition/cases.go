package condition

import (
	"slices"

	"helmsman/api"
)

// Cases returns the disjunctive normal form of a condition.
func Cases(d api.Domain, c api.Condition, args []int) ([][]api.Literal, api.Fault) {
	if f := Validate(d, c); f != (api.Fault{}) {
		return nil, f
	}
	b, code := bind(d, c.Types, args)
	if code != api.OK {
		return nil, api.Fault{Code: code, Index: -12}
	}
	t := newTree(d, c)
	cases, ok := t.cases(t.root(), false, b)
	if !ok {
		return nil, api.Fault{Code: api.ErrTooLarge, Index: -13}
	}
	var result [][]api.Literal
	for _, numbers := range cases {
		var literals []api.Literal
		for _, n := range numbers {
			literals = append(literals, literalOf(d, n))
		}
		result = append(result, literals)
	}
	return result, api.Fault{}
}

// literalNumber returns the number of a literal: twice that of its atom, plus 1 if it is negated. So literals are ordered by their atoms, and only an atom and its negation have the same half.
func literalNumber(atomNumber int, negated bool) int {
	if negated {
		return 2*atomNumber + 1
	}
	return 2 * atomNumber
}

// literalOf returns the literal with a number.
func literalOf(d api.Domain, number int) api.Literal {
	var args [api.MaxParameters]int
	atom := number / 2
	for i := api.MaxParameters - 1; i >= 0; i-- {
		args[i] = atom % api.MaxObjects
		atom /= api.MaxObjects
	}
	arity := len(d.Predicates[atom].Types)
	return api.Literal{Negated: number%2 == 1, Atom: api.Atom{Predicate: atom, Args: args[:arity]}}
}

// cases returns the cases of a positive or negative node, each as a strictly increasing list of the numbers of its literals. It reports false if some node in its subtree, or the first parts of one, have more than MaxCases.
func (t *tree) cases(i int, negative bool, b binding) ([][]int, bool) {
	n := t.nodes[i]
	switch n.Kind {
	case api.ConditionTrue:
		return constantCases(!negative), true
	case api.ConditionAtom:
		return [][]int{{literalNumber(b.atomNumber(n.Atom), negative)}}, true
	case api.ConditionEqual:
		return constantCases((b.object(n.Left) == b.object(n.Right)) != negative), true
	case api.ConditionNot:
		return t.cases(n.Children[0], !negative, b)
	}
	conjunction := (n.Kind == api.ConditionAnd || n.Kind == api.ConditionForAll) != negative
	combine := either
	if conjunction {
		combine = both
	}
	cases := constantCases(conjunction)
	for part, extended := range t.parts(i, b) {
		// Further parts are examined even if there are no cases so far, as one of them may have too many.
		more, ok := t.cases(part, negative, extended)
		if !ok {
			return nil, false
		}
		if cases = combine(cases, more); len(cases) > api.MaxCases {
			return nil, false
		}
	}
	return cases, true
}

// constantCases returns the cases of what is always true, or always false.
func constantCases(is bool) [][]int {
	if is {
		return [][]int{{}}
	}
	return nil
}

// either adds the cases of a further part of a disjunction to those of the first ones.
func either(first, further [][]int) [][]int {
	for _, c := range further {
		first = addCase(first, c)
	}
	return first
}

// both combines the cases of the first parts of a conjunction with those of a further one. It stops when it is clear that there are more than MaxCases.
func both(first, further [][]int) [][]int {
	var cases [][]int
	for _, a := range first {
		for _, b := range further {
			if c, ok := union(a, b); ok {
				cases = addCase(cases, c)
			}
		}
		if len(cases) > api.MaxCases {
			break
		}
	}
	return cases
}

// addCase adds a case to a list in which it does not occur.
func addCase(cases [][]int, c []int) [][]int {
	same := func(earlier []int) bool { return slices.Equal(earlier, c) }
	if slices.ContainsFunc(cases, same) {
		return cases
	}
	return append(cases, c)
}

// union returns the case with the literals of two cases. It reports false if these contradict each other.
func union(a, b []int) ([]int, bool) {
	c := slices.Concat(a, b)
	slices.Sort(c)
	c = slices.Compact(c)
	for i := 1; i < len(c); i++ {
		if c[i-1]/2 == c[i]/2 {
			return nil, false
		}
	}
	return c, true
}
