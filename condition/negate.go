package condition

import (
	"helmsman/api"
)

// Negate returns the negation of a condition, in which only atoms and equalities are negated.
func Negate(d api.Domain, c api.Condition) (api.Condition, api.Fault) {
	if f := Validate(d, c); f != (api.Fault{}) {
		return api.Condition{}, f
	}
	nodes := negated(c.Nodes)
	if len(nodes) > api.MaxCondition {
		return api.Condition{}, api.Fault{Code: api.ErrTooLarge, Index: -13}
	}
	return api.Condition{Types: copyOf(c.Types), Nodes: nodes}, api.Fault{}
}

// negated returns the negation of a tree.
func negated(nodes []api.ConditionNode) []api.ConditionNode {
	var result []api.ConditionNode
	// add adds the tree that stands for a positive or negative node, and returns its root.
	var add func(i int, negative bool) int
	add = func(i int, negative bool) int {
		n := nodes[i]
		if n.Kind == api.ConditionNot {
			return add(n.Children[0], !negative)
		}
		var children []int
		for _, child := range n.Children {
			children = append(children, add(child, negative))
		}
		n.Children = children
		n.Atom.Args = copyOf(n.Atom.Args)
		switch {
		case !negative:
		case n.Kind == api.ConditionTrue:
			n = api.ConditionNode{Kind: api.ConditionOr}
		case n.Kind == api.ConditionAtom || n.Kind == api.ConditionEqual:
			result = append(result, n)
			n = api.ConditionNode{Kind: api.ConditionNot, Children: []int{len(result) - 1}}
		default:
			n.Kind = opposite(n.Kind)
		}
		result = append(result, n)
		return len(result) - 1
	}
	add(len(nodes)-1, true)
	return result
}

// opposite returns the kind for which a conjunction, a disjunction or a quantifier is exchanged when it is negated.
func opposite(kind int) int {
	switch kind {
	case api.ConditionAnd:
		return api.ConditionOr
	case api.ConditionOr:
		return api.ConditionAnd
	case api.ConditionExists:
		return api.ConditionForAll
	}
	return api.ConditionExists
}

// copyOf returns a copy that does not even refer to the memory of an empty list.
func copyOf(l []int) []int { return append([]int(nil), l...) }
