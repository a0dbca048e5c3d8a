package condition_test

import (
	"math/rand"
	"slices"
	"testing"

	"helmsman/api"
	"helmsman/condition"
)

// model evaluates branches in a domain by the text of the document.
type model struct{ d api.Domain }

// members returns the objects of a type.
func (m model) members(t int) []int {
	var l []int
	for i, o := range m.d.Objects {
		for s := o.Type; ; s = m.d.Types[s].Parent {
			if s == t {
				l = append(l, i)
			}
			if s == -1 {
				break
			}
		}
	}
	return l
}

// ground returns a branch without parameters and quantifiers: parameters are replaced by the objects args, and quantifiers by conjunctions and disjunctions of their instances.
func (m model) ground(b branch, args []int) branch {
	object := func(arg int) int {
		if arg < 0 {
			return args[-1-arg]
		}
		return arg
	}
	g := branch{node: api.ConditionNode{Kind: b.node.Kind}}
	switch b.node.Kind {
	case api.ConditionAtom:
		g.node.Atom.Predicate = b.node.Atom.Predicate
		for _, arg := range b.node.Atom.Args {
			g.node.Atom.Args = append(g.node.Atom.Args, object(arg))
		}
	case api.ConditionEqual:
		g.node.Left, g.node.Right = object(b.node.Left), object(b.node.Right)
	case api.ConditionExists, api.ConditionForAll:
		g.node.Kind = api.ConditionOr
		if b.node.Kind == api.ConditionForAll {
			g.node.Kind = api.ConditionAnd
		}
		for _, o := range m.members(b.node.Type) {
			g.children = append(g.children, m.ground(b.children[0], slices.Concat(args, []int{o})))
		}
	default:
		for _, c := range b.children {
			g.children = append(g.children, m.ground(c, args))
		}
	}
	return g
}

// holds evaluates a ground branch.
func holds(g branch, atoms []api.Atom) bool {
	count := 0
	for _, c := range g.children {
		if holds(c, atoms) {
			count++
		}
	}
	switch g.node.Kind {
	case api.ConditionTrue:
		return true
	case api.ConditionAtom:
		return slices.ContainsFunc(atoms, func(a api.Atom) bool {
			return sameLiteral(api.Literal{Atom: a}, api.Literal{Atom: g.node.Atom})
		})
	case api.ConditionEqual:
		return g.node.Left == g.node.Right
	case api.ConditionNot:
		return count == 0
	case api.ConditionAnd:
		return count == len(g.children)
	}
	return count > 0
}

// negation returns the negation of a branch by R4.3 if negative, and otherwise the branch itself with its negations moved to the leaves.
func negation(b branch, negative bool) branch {
	if b.node.Kind == api.ConditionNot {
		return negation(b.children[0], !negative)
	}
	var children []branch
	for _, c := range b.children {
		children = append(children, negation(c, negative))
	}
	n := branch{b.node, children}
	if !negative {
		return n
	}
	switch b.node.Kind {
	case api.ConditionTrue:
		return or()
	case api.ConditionAtom, api.ConditionEqual:
		return not(n)
	case api.ConditionAnd:
		n.node.Kind = api.ConditionOr
	case api.ConditionOr:
		n.node.Kind = api.ConditionAnd
	case api.ConditionExists:
		n.node.Kind = api.ConditionForAll
	case api.ConditionForAll:
		n.node.Kind = api.ConditionExists
	}
	return n
}

// cases returns the cases of a ground branch whose negations are at the leaves, and false if there are too many of some node or of the first children of a conjunction.
func cases(g branch) ([][]api.Literal, bool) {
	constant := func(is bool) [][]api.Literal {
		if is {
			return lists(list())
		}
		return nil
	}
	switch g.node.Kind {
	case api.ConditionTrue:
		return constant(true), true
	case api.ConditionAtom:
		return lists(list(api.Literal{Atom: g.node.Atom})), true
	case api.ConditionEqual:
		return constant(g.node.Left == g.node.Right), true
	case api.ConditionNot:
		leaf := g.children[0].node
		if leaf.Kind == api.ConditionEqual {
			return constant(leaf.Left != leaf.Right), true
		}
		return lists(list(api.Literal{Negated: true, Atom: leaf.Atom})), true
	}
	all := constant(g.node.Kind == api.ConditionAnd)
	for _, child := range g.children {
		next, ok := cases(child)
		if !ok {
			return nil, false
		}
		if g.node.Kind == api.ConditionAnd {
			all = products(all, next)
		} else {
			all = distinct(slices.Concat(all, next))
		}
		if len(all) > api.MaxCases {
			return nil, false
		}
	}
	return all, true
}

// products returns the unions of cases that do not contradict each other.
func products(first, second [][]api.Literal) [][]api.Literal {
	var l [][]api.Literal
	for _, a := range first {
		for _, b := range second {
			joined := slices.Concat(a, b)
			slices.SortStableFunc(joined, func(x, y api.Literal) int {
				if x.Atom.Predicate != y.Atom.Predicate {
					return x.Atom.Predicate - y.Atom.Predicate
				}
				return slices.Compare(x.Atom.Args, y.Atom.Args)
			})
			joined = slices.CompactFunc(joined, sameLiteral)
			conflict := false
			for i := range len(joined) - 1 {
				opposite := joined[i+1]
				opposite.Negated = !opposite.Negated
				conflict = conflict || sameLiteral(joined[i], opposite)
			}
			if !conflict {
				l = append(l, joined)
			}
		}
	}
	return distinct(l)
}

// distinct returns the cases without repetitions.
func distinct(l [][]api.Literal) [][]api.Literal {
	var rest [][]api.Literal
	for _, c := range l {
		if !slices.ContainsFunc(rest, func(e []api.Literal) bool { return sameCase(e, c) }) {
			rest = append(rest, c)
		}
	}
	return rest
}

// chooser makes the choices for random conditions.
type chooser struct{ *rand.Rand }

// domain returns a domain with few atoms.
func (c chooser) domain() api.Domain {
	var d api.Domain
	for i := range c.Intn(4) {
		d.Types = append(d.Types, api.Type{Name: string(rune('a' + i)), Parent: c.Intn(i+1) - 1})
	}
	for i := range 1 + c.Intn(4) {
		d.Objects = append(d.Objects, api.Object{Name: string(rune('a' + i)), Type: c.Intn(len(d.Types)+1) - 1})
	}
	for i := range 1 + c.Intn(3) {
		var types []int
		for range c.Intn(4) {
			types = append(types, c.Intn(3)/2*(c.Intn(len(d.Types)+1))-1)
		}
		d.Predicates = append(d.Predicates, api.Predicate{Name: string(rune('a' + i)), Types: types})
	}
	return d
}

// argument returns an object or a parameter.
func (c chooser) argument(d api.Domain, parameters int) int {
	return c.Intn(len(d.Objects)+2*parameters)%(len(d.Objects)+parameters) - parameters
}

// branch returns a branch of limited depth with a number of parameters in its scope.
func (c chooser) branch(d api.Domain, parameters, depth int) branch {
	kinds := []int{api.ConditionNot, api.ConditionAnd, api.ConditionAnd, api.ConditionOr, api.ConditionOr, api.ConditionExists, api.ConditionForAll, api.ConditionAtom}
	if depth == 0 {
		kinds = append(repeat(api.ConditionAtom, 9), api.ConditionEqual, api.ConditionTrue)
	}
	kind := kinds[c.Intn(len(kinds))]
	b := branch{node: api.ConditionNode{Kind: kind}}
	switch kind {
	case api.ConditionAtom:
		b.node.Atom.Predicate = c.Intn(len(d.Predicates))
		for range d.Predicates[b.node.Atom.Predicate].Types {
			b.node.Atom.Args = append(b.node.Atom.Args, c.argument(d, parameters))
		}
	case api.ConditionEqual:
		b.node.Left, b.node.Right = c.argument(d, parameters), c.argument(d, parameters)
	case api.ConditionNot:
		b.children = []branch{c.branch(d, parameters, depth-1)}
	case api.ConditionAnd, api.ConditionOr:
		for range 1 + c.Intn(4) - c.Intn(2) {
			b.children = append(b.children, c.branch(d, parameters, depth-1))
		}
	case api.ConditionExists, api.ConditionForAll:
		b.node.Type = c.Intn(len(d.Types)+1) - 1
		b.children = []branch{c.branch(d, parameters+1, depth-1)}
	}
	return b
}

// atoms returns some of the ground atoms of a domain that are valid.
func (c chooser) atoms(d api.Domain) []api.Atom {
	var l []api.Atom
	for range c.Intn(12) {
		a := at(c.Intn(len(d.Predicates)))
		for _, t := range d.Predicates[a.Predicate].Types {
			if of := (model{d}).members(t); len(of) > 0 {
				a.Args = append(a.Args, of[c.Intn(len(of))])
			}
		}
		if len(a.Args) == len(d.Predicates[a.Predicate].Types) {
			l = append(l, a)
		}
	}
	return l
}

// TestRandomConditions compares random conditions with the model.
func TestRandomConditions(t *testing.T) {
	c := chooser{rand.New(rand.NewSource(4))}
	valid, tooLarge, longest := 0, 0, 0
	for range 60000 {
		d := c.domain()
		var types, args []int
		for range c.Intn(4) {
			args = append(args, c.Intn(len(d.Objects)))
			types = append(types, d.Objects[args[len(args)-1]].Type)
		}
		root := c.branch(d, len(types), 2+c.Intn(4))
		if condition.Validate(d, with(types, root)) != fault(0, 0) {
			continue
		}
		valid++
		got := compare(t, c, d, types, args, root)
		longest = max(longest, got)
		if got < 0 {
			tooLarge++
		}
		if t.Failed() {
			t.Fatalf("for %v, %v with %v", d, with(types, root), args)
		}
	}
	if valid < 10000 || tooLarge < 200 || longest < 30 {
		t.Errorf("only %d conditions are valid, %d have too many cases, and the most cases are %d", valid, tooLarge, longest)
	}
}

// compare compares the results for a valid condition with the model. It returns the number of cases, or -1 if there are too many.
func compare(t *testing.T, c chooser, d api.Domain, types, args []int, root branch) int {
	t.Helper()
	input := with(types, root)
	ground := (model{d}).ground(root, args)
	want, ok := cases(negation(ground, false))
	got, f := condition.Cases(d, input, args)
	if !ok && (f != fault(api.ErrTooLarge, -13) || got != nil) || ok && (f != fault(0, 0) || !sameCases(got, want)) {
		t.Errorf("Cases = %v, %v, want %v", got, f, want)
	}

	wantNegated := with(types, negation(root, true))
	negated, g := condition.Negate(d, input)
	small := len(wantNegated.Nodes) <= api.MaxCondition
	switch {
	case small && (g != fault(0, 0) || !sameNodes(negated.Nodes, wantNegated.Nodes) || !sameInts(negated.Types, types)):
		t.Errorf("Negate = %v, %v, want %v", negated, g, wantNegated)
	case !small && (g != fault(api.ErrTooLarge, -13) || negated.Nodes != nil || negated.Types != nil):
		t.Errorf("Negate = %v, %v for a large condition", negated, g)
	}

	for range 4 {
		atoms := c.atoms(d)
		is, f := condition.Eval(d, input, atoms, args)
		if f != fault(0, 0) || is != holds(ground, atoms) {
			t.Errorf("Eval = %v, %v with %v", is, f, atoms)
		}
		if small {
			if is, f := condition.Eval(d, negated, atoms, args); f != fault(0, 0) || is == holds(ground, atoms) {
				t.Errorf("Eval of the negation = %v, %v with %v", is, f, atoms)
			}
		}
		if ok && slices.ContainsFunc(got, func(l []api.Literal) bool { return allTrue(l, atoms) }) != is {
			t.Errorf("the cases %v are not as true as the condition with %v", got, atoms)
		}
	}
	if !ok {
		return -1
	}
	return len(got)
}

// allTrue reports whether all literals of a case are true.
func allTrue(l []api.Literal, atoms []api.Atom) bool {
	for _, e := range l {
		if holds(branch{node: api.ConditionNode{Kind: api.ConditionAtom, Atom: e.Atom}}, atoms) == e.Negated {
			return false
		}
	}
	return true
}

// TestRandomNodes covers Z1 and Z2 for conditions whose numbers are arbitrary: nothing panics, and a fault comes with zero values.
func TestRandomNodes(t *testing.T) {
	c := chooser{rand.New(rand.NewSource(5))}
	number := func() int {
		return []int{-1 << 63, -100, -3, -2, -1, 0, 1, 2, 3, 4, 5, 6, 7, 8, 9, 100, 1<<63 - 1}[c.Intn(17)]
	}
	faulty := 0
	for range 40000 {
		d, l := delivery(), trip()
		for range 1 + c.Intn(3) {
			n := &l.Nodes[c.Intn(len(l.Nodes))]
			field := []*int{&n.Kind, &n.Atom.Predicate, &n.Left, &n.Right, &n.Type, &l.Types[c.Intn(2)]}[c.Intn(6)]
			*field = number()
			if len(n.Children) > 0 && c.Intn(2) == 0 {
				n.Children[c.Intn(len(n.Children))] = number()
			}
			if len(n.Atom.Args) > 0 && c.Intn(2) == 0 {
				n.Atom.Args[c.Intn(len(n.Atom.Args))] = number()
			}
		}
		atoms, args := []api.Atom{at(c.Intn(4), number())}, []int{van, rome}
		f := condition.Validate(d, l)
		is, g := condition.Eval(d, l, atoms, args)
		negated, h := condition.Negate(d, l)
		found, i := condition.Cases(d, l, args)
		if f != fault(0, 0) {
			faulty++
			if g != f || h != f || i != f {
				t.Fatalf("%v: got %v, %v, %v and %v", l, f, g, h, i)
			}
		}
		if g != fault(0, 0) && is || h != fault(0, 0) && (negated.Nodes != nil || negated.Types != nil) || i != fault(0, 0) && found != nil {
			t.Fatalf("%v: got %v, %v, %v, %v, %v and %v", l, is, g, negated, h, found, i)
		}
	}
	if faulty < 10000 {
		t.Errorf("only %d conditions are invalid", faulty)
	}
}
