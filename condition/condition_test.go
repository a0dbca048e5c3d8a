package condition_test

import (
	"math"
	"slices"
	"testing"

	"helmsman/api"
	"helmsman/condition"
)

func fault(code, index int) api.Fault { return api.Fault{Code: code, Index: index} }

func repeat[E any](e E, n int) []E { return slices.Repeat([]E{e}, n) }

// Numbers of what is in the domain below.
const (
	place, city, truck, ghost  = 0, 1, 2, 3                 // types: a city is a place, and there are no ghosts
	rome, bari, van, key       = 0, 1, 2, 3                 // objects of the types city, place, truck and object
	in, road, seen, rain       = 0, 1, 2, 3                 // predicates
	p0, p1, p2, p3, p4, p5, p6 = -1, -2, -3, -4, -5, -6, -7 // parameters
)

// delivery returns a valid domain.
func delivery() api.Domain {
	return api.Domain{
		Types:      []api.Type{{Name: "place", Parent: -1}, {Name: "city", Parent: place}, {Name: "truck", Parent: -1}, {Name: "ghost", Parent: -1}},
		Objects:    []api.Object{{Name: "rome", Type: city}, {Name: "bari", Type: place}, {Name: "van", Type: truck}, {Name: "key", Type: -1}},
		Predicates: []api.Predicate{{Name: "in", Types: []int{truck, place}}, {Name: "road", Types: []int{place, place}}, {Name: "seen", Types: []int{-1}}, {Name: "rain"}},
		Schemas:    []api.Schema{{Name: "look", Types: []int{-1}, Add: []api.Atom{at(seen, p0)}}},
		Init:       []api.Atom{at(in, van, bari)},
		Goal:       []api.Literal{{Atom: at(in, van, rome)}},
	}
}

func at(predicate int, args ...int) api.Atom { return api.Atom{Predicate: predicate, Args: args} }

// branch is a node with its children, from which conditions are made.
type branch struct {
	node     api.ConditionNode
	children []branch
}

func always() branch { return branch{node: api.ConditionNode{Kind: api.ConditionTrue}} }

func atom(predicate int, args ...int) branch {
	return branch{node: api.ConditionNode{Kind: api.ConditionAtom, Atom: at(predicate, args...)}}
}

func equal(left, right int) branch {
	return branch{node: api.ConditionNode{Kind: api.ConditionEqual, Left: left, Right: right}}
}

func not(b branch) branch { return branch{api.ConditionNode{Kind: api.ConditionNot}, []branch{b}} }

func and(l ...branch) branch { return branch{api.ConditionNode{Kind: api.ConditionAnd}, l} }

func or(l ...branch) branch { return branch{api.ConditionNode{Kind: api.ConditionOr}, l} }

func exists(t int, b branch) branch {
	return branch{api.ConditionNode{Kind: api.ConditionExists, Type: t}, []branch{b}}
}

func forAll(t int, b branch) branch {
	return branch{api.ConditionNode{Kind: api.ConditionForAll, Type: t}, []branch{b}}
}

// nested returns n quantifiers for all objects around a branch.
func nested(n int, b branch) branch {
	for range n {
		b = exists(-1, b)
	}
	return b
}

// nodes returns the nodes of a branch in postorder, after the given ones.
func (b branch) nodes(before []api.ConditionNode) []api.ConditionNode {
	var roots []int
	for _, c := range b.children {
		before = c.nodes(before)
		roots = append(roots, len(before)-1)
	}
	n := b.node
	n.Children = roots
	return append(before, n)
}

// with returns the condition with the root b and parameters of the given types.
func with(types []int, b branch) api.Condition {
	return api.Condition{Types: types, Nodes: b.nodes(nil)}
}

func closed(b branch) api.Condition { return with(nil, b) }

// trip returns a valid condition with the parameters of the types truck and place. Its nodes are numbered below.
func trip() api.Condition {
	return with([]int{truck, place}, or( // 9
		atom(in, p0, p1),     // 0
		not(equal(p1, bari)), // 2, 1
		exists(city, and( // 7, 6
			atom(road, p1, p2),           // 3
			forAll(-1, atom(seen, p3)))), // 5, 4
		always(), // 8
	))
}

// change is a way to change the domain of delivery and the condition of a trip, and what Validate then reports.
type change struct {
	name  string
	apply func(d *api.Domain, c *api.Condition)
	want  api.Fault
}

// faults returns what the exported functions report, with valid atoms and arguments.
func faults(d api.Domain, c api.Condition) map[string]api.Fault {
	args := []int{van, rome, key}
	_, eval := condition.Eval(d, c, nil, args[:min(len(c.Types), 3)])
	_, negate := condition.Negate(d, c)
	_, cases := condition.Cases(d, c, args[:min(len(c.Types), 3)])
	return map[string]api.Fault{"Validate": condition.Validate(d, c), "Eval": eval, "Negate": negate, "Cases": cases}
}

// checkChanges applies each change.
func checkChanges(t *testing.T, changes []change) {
	t.Helper()
	for _, change := range changes {
		d, c := delivery(), trip()
		change.apply(&d, &c)
		if got := condition.Validate(d, c); got != change.want {
			t.Errorf("%s: got %v, want %v", change.name, got, change.want)
		}
		if change.want == fault(0, 0) {
			continue
		}
		for name, got := range faults(d, c) {
			if got != change.want {
				t.Errorf("%s: %s reports %v, want %v", change.name, name, got, change.want)
			}
		}
	}
}

// changes of one node.
func node(i int, apply func(n *api.ConditionNode)) func(d *api.Domain, c *api.Condition) {
	return func(_ *api.Domain, c *api.Condition) { apply(&c.Nodes[i]) }
}

func kind(i, kind int) func(d *api.Domain, c *api.Condition) {
	return node(i, func(n *api.ConditionNode) { n.Kind = kind })
}

func children(i int, l ...int) func(d *api.Domain, c *api.Condition) {
	return node(i, func(n *api.ConditionNode) { n.Children = l })
}

func argument(i int, predicate int, args ...int) func(d *api.Domain, c *api.Condition) {
	return node(i, func(n *api.ConditionNode) { n.Atom = at(predicate, args...) })
}

func sides(i int, left, right int) func(d *api.Domain, c *api.Condition) {
	return node(i, func(n *api.ConditionNode) { n.Left, n.Right = left, right })
}

func quantified(i, t int) func(d *api.Domain, c *api.Condition) {
	return node(i, func(n *api.ConditionNode) { n.Type = t })
}

func parameters(types ...int) func(d *api.Domain, c *api.Condition) {
	return func(_ *api.Domain, c *api.Condition) { c.Types = types }
}

// whole replaces the condition.
func whole(with api.Condition) func(d *api.Domain, c *api.Condition) {
	return func(_ *api.Domain, c *api.Condition) { *c = with }
}

func nodes(l ...api.ConditionNode) func(d *api.Domain, c *api.Condition) {
	return whole(api.Condition{Nodes: l})
}

// many returns n nodes of which the last one has all others as children.
func many(n int) api.Condition { return closed(and(repeat(always(), n-1)...)) }

// validChanges lead to valid conditions: the edges of what is permitted.
var validChanges = []change{
	{"nothing", func(*api.Domain, *api.Condition) {}, fault(0, 0)},
	{"one node and an empty domain", func(d *api.Domain, c *api.Condition) { *d, *c = api.Domain{}, closed(always()) }, fault(0, 0)},
	{"as many nodes as permitted", whole(many(api.MaxCondition)), fault(0, 0)},
	{"as many parameters as permitted", whole(with([]int{-1, truck, ghost}, equal(p0, p2))), fault(0, 0)},
	{"parameters of the root", parameters(truck, city), fault(0, 0)},
	{"no children", whole(closed(or(and(), or()))), fault(0, 0)},
	{"empty lists", nodes(api.ConditionNode{Kind: api.ConditionTrue, Children: []int{}}), fault(0, 0)},
	{"as many nested quantifiers as permitted", whole(closed(nested(6, equal(p0, p5)))), fault(0, 0)},
	{"as many nested quantifiers with parameters", whole(with([]int{-1, -1, -1}, nested(3, equal(p0, p5)))), fault(0, 0)},
	{"as many quantifiers side by side", whole(closed(and(repeat(nested(6, always()), 4)...))), fault(0, 0)},
	{"every type", whole(closed(and(exists(-1, always()), forAll(place, always()), exists(ghost, always())))), fault(0, 0)},
	{"parameter of an inner quantifier of a narrower type", whole(closed(exists(-1, forAll(city, atom(road, p1, p1))))), fault(0, 0)},
	{"parameters with the same number", whole(closed(and(exists(truck, atom(in, p0, bari)), exists(city, atom(in, van, p0))))), fault(0, 0)},
	{"equality of different types", sides(1, p0, key), fault(0, 0)},
	{"equality of objects", sides(1, rome, van), fault(0, 0)},
	{"unused fields", func(_ *api.Domain, c *api.Condition) {
		for i, n := range c.Nodes {
			if n.Kind != api.ConditionAtom {
				c.Nodes[i].Atom = at(-9, 99)
			}
			if n.Kind != api.ConditionEqual {
				c.Nodes[i].Left, c.Nodes[i].Right = 99, -99
			}
			if n.Kind != api.ConditionExists && n.Kind != api.ConditionForAll {
				c.Nodes[i].Type = 99
			}
		}
	}, fault(0, 0)},
}

// TestValidConditions covers R4.1 for valid conditions.
func TestValidConditions(t *testing.T) { checkChanges(t, validChanges) }

// orderedChanges lead to errors, in the order in which R4.1 checks them. Any of them can be combined.
var orderedChanges = []change{
	{"type of the domain", func(d *api.Domain, _ *api.Condition) { d.Types[city].Parent = truck }, fault(api.ErrRange, -1)},
	{"object of the domain", func(d *api.Domain, _ *api.Condition) { d.Objects[key].Name = "" }, fault(api.ErrName, -2)},
	{"predicate of the domain", func(d *api.Domain, _ *api.Condition) { d.Predicates[rain].Name = "seen" }, fault(api.ErrExists, -3)},
	{"schema of the domain", func(d *api.Domain, _ *api.Condition) { d.Schemas[0].Cost = -1 }, fault(api.ErrRange, 0)},
	{"goal of the domain", func(d *api.Domain, _ *api.Condition) { d.Goal[0].Atom = at(9) }, fault(api.ErrNotFound, -6)},

	{"too many parameters", parameters(-1, -1, -1, 99), fault(api.ErrTooMany, -9)},
	{"type of a parameter", parameters(truck, 4), fault(api.ErrRange, -9)},

	{"no nodes", func(_ *api.Domain, c *api.Condition) { c.Nodes = nil }, fault(api.ErrTooMany, -10)},
	{"too many nodes", func(_ *api.Domain, c *api.Condition) { c.Nodes = append(c.Nodes, make([]api.ConditionNode, 21)...) }, fault(api.ErrTooMany, -10)},

	{"kind of node 0", kind(0, 0), fault(api.ErrKind, 100)},
	{"length of node 0", children(0, 99), fault(api.ErrLength, 100)},
	{"length of node 1", children(1, 0), fault(api.ErrLength, 101)},
	{"kind of node 2", kind(2, 9), fault(api.ErrKind, 102)},
	{"length of node 2", children(2, 0, 1), fault(api.ErrLength, 102)},
	{"child of node 2", children(2, 0), fault(api.ErrMalformed, 102)},
	{"kind of node 5", kind(5, -1), fault(api.ErrKind, 105)},
	{"length of node 5", children(5), fault(api.ErrLength, 105)},
	{"child of node 5", children(5, 5), fault(api.ErrMalformed, 105)},
	{"children of node 6", children(6, 4, 5), fault(api.ErrMalformed, 106)},
	{"length of node 7", children(7, 3, 6), fault(api.ErrLength, 107)},
	{"length of node 8", children(8, 7), fault(api.ErrLength, 108)},
	{"children of node 9", children(9, 0, 7, 8), fault(api.ErrMalformed, 109)},
	{"node outside of the tree", children(9, 2, 7, 8), fault(api.ErrMalformed, -10)},

	{"type of node 5", quantified(5, 4), fault(api.ErrRange, 105)},
	{"type of node 7", quantified(7, -2), fault(api.ErrRange, 107)},

	{"atom of node 0", argument(0, 4, 99), fault(api.ErrNotFound, 100)},
	{"right side of node 1", sides(1, p1, p2), fault(api.ErrRange, 101)},
	{"atom of node 3", argument(3, road, p1, p3), fault(api.ErrRange, 103)},
	{"atom of node 4", argument(4, in, p0, p0), fault(api.ErrWrongType, 104)},
}

// TestOrderOfErrors covers the errors of R4.1 and the order in which they are checked: of any two errors, the one that is checked first is reported.
func TestOrderOfErrors(t *testing.T) {
	checkChanges(t, orderedChanges)
	for i, first := range orderedChanges {
		for _, second := range orderedChanges[i+1:] {
			d, c := delivery(), trip()
			second.apply(&d, &c)
			first.apply(&d, &c)
			if got := condition.Validate(d, c); got != first.want {
				t.Errorf("%s and %s: got %v, want %v", first.name, second.name, got, first.want)
			}
		}
	}
}

// furtherChanges lead to errors that cannot be combined freely with those above.
var furtherChanges = []change{
	{"zero condition", whole(api.Condition{}), fault(api.ErrTooMany, -10)},
	{"one parameter too many", parameters(-1, -1, -1, -1), fault(api.ErrTooMany, -9)},
	{"last parameter", parameters(-1, -1, -2), fault(api.ErrRange, -9)},
	{"one node too many", whole(many(api.MaxCondition + 1)), fault(api.ErrTooMany, -10)},
	{"far too many nodes", nodes(make([]api.ConditionNode, 100000)...), fault(api.ErrTooMany, -10)},
	{"zero node", nodes(api.ConditionNode{}), fault(api.ErrKind, 100)},
	{"zero node with a child", nodes(api.ConditionNode{Children: []int{0}}), fault(api.ErrKind, 100)},

	{"true with a child", kind(2, api.ConditionTrue), fault(api.ErrLength, 102)},
	{"atom with a child", kind(2, api.ConditionAtom), fault(api.ErrLength, 102)},
	{"equality with a child", kind(2, api.ConditionEqual), fault(api.ErrLength, 102)},
	{"not without a child", kind(0, api.ConditionNot), fault(api.ErrLength, 100)},
	{"exists without a child", kind(0, api.ConditionExists), fault(api.ErrLength, 100)},
	{"for all without a child", kind(0, api.ConditionForAll), fault(api.ErrLength, 100)},
	{"not with two children", kind(6, api.ConditionNot), fault(api.ErrLength, 106)},
	{"exists with two children", kind(6, api.ConditionExists), fault(api.ErrLength, 106)},
	{"for all with two children", kind(6, api.ConditionForAll), fault(api.ErrLength, 106)},
	{"length after a malformed node", func(_ *api.Domain, c *api.Condition) { c.Nodes[2].Children, c.Nodes[5].Children = []int{0}, nil }, fault(api.ErrMalformed, 102)},

	{"children in the wrong order", children(6, 5, 3), fault(api.ErrMalformed, 106)},
	{"the same child twice", children(6, 5, 5), fault(api.ErrMalformed, 106)},
	{"the first child only", children(6, 3), fault(api.ErrMalformed, 106)},
	{"the last child only", children(6, 5), fault(api.ErrMalformed, 109)},
	{"a grandchild", children(9, 0, 2, 6, 8), fault(api.ErrMalformed, 109)},
	{"children and a grandchild", children(9, 0, 1, 2, 7, 8), fault(api.ErrMalformed, 109)},
	{"the node itself", children(9, 0, 2, 7, 9), fault(api.ErrMalformed, 109)},
	{"a child before the first one", children(9, -1, 0, 2, 7, 8), fault(api.ErrMalformed, 109)},
	{"a later child", children(6, 3, 7), fault(api.ErrMalformed, 106)},
	{"far too many children", children(9, make([]int, 100000)...), fault(api.ErrMalformed, 109)},
	{"root without children", children(9), fault(api.ErrMalformed, -10)},
	{"two roots", func(_ *api.Domain, c *api.Condition) { c.Nodes = append(c.Nodes, c.Nodes[8]) }, fault(api.ErrMalformed, -10)},
	{"two roots and a kind", func(_ *api.Domain, c *api.Condition) { c.Nodes = append(c.Nodes, api.ConditionNode{}) }, fault(api.ErrKind, 110)},

	{"one nested quantifier too many", whole(closed(nested(7, always()))), fault(api.ErrTooMany, 101)},
	{"several nested quantifiers too many", whole(closed(nested(9, always()))), fault(api.ErrTooMany, 101)},
	{"only quantifiers", whole(closed(nested(29, always()))), fault(api.ErrTooMany, 101)},
	{"one nested quantifier too many with parameters", whole(with([]int{-1, -1, -1}, nested(4, always()))), fault(api.ErrTooMany, 101)},
	{"one nested quantifier too many with other nodes", whole(with([]int{-1}, nested(2, not(nested(2, and(always(), nested(2, always()))))))), fault(api.ErrTooMany, 102)},
	{"quantifiers in another order", whole(closed(forAll(4, nested(6, always())))), fault(api.ErrTooMany, 101)},
	{"type of the quantifier with too many parameters", whole(closed(nested(6, forAll(4, always())))), fault(api.ErrRange, 101)},
	{"type of an inner quantifier", whole(closed(forAll(4, nested(5, forAll(-2, always()))))), fault(api.ErrRange, 101)},
	{"quantifier after a wrong atom", whole(closed(and(atom(9), exists(9, always())))), fault(api.ErrRange, 102)},

	{"parameter of another quantifier", whole(closed(and(exists(-1, atom(seen, p0)), atom(seen, p0)))), fault(api.ErrRange, 102)},
	{"parameter of a quantifier before it", whole(closed(and(equal(p0, p0), exists(-1, always())))), fault(api.ErrRange, 100)},
	{"parameter of an inner quantifier", whole(closed(exists(-1, and(exists(-1, always()), equal(p1, p0))))), fault(api.ErrRange, 102)},
	{"type of a parameter of an atom", whole(closed(exists(truck, exists(-1, atom(in, p0, p1))))), fault(api.ErrWrongType, 100)},
	{"types in the order of the scope", whole(closed(exists(truck, exists(city, atom(in, p1, p0))))), fault(api.ErrWrongType, 100)},
	{"type of a parameter of the condition", whole(with([]int{-1}, atom(road, rome, p0))), fault(api.ErrWrongType, 100)},
	{"more parameters than there are", whole(closed(nested(6, atom(seen, p6)))), fault(api.ErrRange, 100)},
	{"equality after an atom", whole(closed(and(equal(rome, 4), atom(9)))), fault(api.ErrRange, 100)},
	{"left side", sides(1, 4, bari), fault(api.ErrRange, 101)},
	{"length of an atom", argument(0, in, p0), fault(api.ErrLength, 100)},
	{"zero atom without predicates", func(d *api.Domain, c *api.Condition) { *d, *c = api.Domain{}, closed(atom(0)) }, fault(api.ErrNotFound, 100)},
}

// TestFurtherErrors covers errors of R4.1 at the edges.
func TestFurtherErrors(t *testing.T) { checkChanges(t, furtherChanges) }

// TestFarNumbers covers R4.1 for numbers that are far outside their ranges.
func TestFarNumbers(t *testing.T) {
	for _, far := range []int{math.MinInt, math.MinInt + 1, -1000, 1000, math.MaxInt - 1, math.MaxInt} {
		checkChanges(t, []change{
			{"type of a parameter", parameters(far), fault(api.ErrRange, -9)},
			{"kind", kind(4, far), fault(api.ErrKind, 104)},
			{"child", children(2, far), fault(api.ErrMalformed, 102)},
			{"first child", children(9, far, 2, 7, 8), fault(api.ErrMalformed, 109)},
			{"type of a quantifier", quantified(7, far), fault(api.ErrRange, 107)},
			{"predicate", argument(0, far, p0, p1), fault(api.ErrNotFound, 100)},
			{"argument", argument(0, in, van, far), fault(api.ErrRange, 100)},
			{"left side", sides(1, far, rome), fault(api.ErrRange, 101)},
			{"right side", sides(1, rome, far), fault(api.ErrRange, 101)},
		})
	}
}

// subtree returns the nodes of a subtree in order, by following the children, and reports false if a child is not an earlier node.
func subtree(l []api.ConditionNode, i int) ([]int, bool) {
	var all []int
	for _, c := range l[i].Children {
		if c < 0 || c >= i {
			return nil, false
		}
		below, ok := subtree(l, c)
		if !ok {
			return nil, false
		}
		all = append(all, below...)
	}
	return append(all, i), true
}

// treeFault returns the fault of R4.1 for the shape of nodes that are all conjunctions.
func treeFault(l []api.ConditionNode) api.Fault {
	for i := range l {
		all, ok := subtree(l, i)
		for k, n := range all {
			ok = ok && n == i+1-len(all)+k
		}
		if !ok {
			return fault(api.ErrMalformed, 100+i)
		}
		if i == len(l)-1 && len(all) < len(l) {
			return fault(api.ErrMalformed, -10)
		}
	}
	return fault(0, 0)
}

// TestShapes covers the shapes of all lists of at most four conjunctions with at most two children, or three for the last one.
func TestShapes(t *testing.T) {
	valid := 0
	var grow func(l []api.ConditionNode)
	grow = func(l []api.ConditionNode) {
		if len(l) > 0 {
			want := treeFault(l)
			if want == fault(0, 0) {
				valid++
			}
			if got := condition.Validate(api.Domain{}, api.Condition{Nodes: l}); got != want {
				t.Errorf("%v: got %v, want %v", l, got, want)
			}
		}
		if len(l) == 4 {
			return
		}
		most := 2
		if len(l) == 3 {
			most = 3
		}
		for _, c := range tuples(most, len(l)+1) {
			grow(append(slices.Clip(l), api.ConditionNode{Kind: api.ConditionAnd, Children: c}))
		}
	}
	grow(nil)
	// There are 1, 1, 2 and 5 ordered trees with one to four nodes.
	if valid != 9 {
		t.Errorf("%d lists are valid", valid)
	}
}

// tuples returns all lists of at most n of the numbers from -1 to below the limit.
func tuples(n, limit int) [][]int {
	l := [][]int{nil}
	for start := 0; n > 0; n-- {
		end := len(l)
		for _, t := range l[start:end] {
			for i := -1; i < limit; i++ {
				l = append(l, append(slices.Clip(t), i))
			}
		}
		start = end
	}
	return l
}
