package condition_test

import (
	"testing"

	"helmsman/api"
	"helmsman/condition"
)

// sameNodes reports whether two lists of nodes are equal, where nil and empty lists are.
func sameNodes(a, b []api.ConditionNode) bool {
	if len(a) != len(b) {
		return false
	}
	for i := range a {
		x, y := a[i], b[i]
		if !sameInts(x.Children, y.Children) || !sameInts(x.Atom.Args, y.Atom.Args) {
			return false
		}
		if x.Kind != y.Kind || x.Atom.Predicate != y.Atom.Predicate || x.Left != y.Left || x.Right != y.Right || x.Type != y.Type {
			return false
		}
	}
	return true
}

func sameInts(a, b []int) bool {
	for i := range a {
		if i >= len(b) || a[i] != b[i] {
			return false
		}
	}
	return len(a) == len(b)
}

// unused returns a branch whose node has values in all fields that its kind does not use, except for Children.
func unused(b branch) branch {
	kind := b.node.Kind
	if kind != api.ConditionAtom {
		b.node.Atom = at(-7, 99, -99)
	}
	if kind != api.ConditionEqual {
		b.node.Left, b.node.Right = 88, -88
	}
	if kind != api.ConditionExists && kind != api.ConditionForAll {
		b.node.Type = 77
	}
	return b
}

// negations are conditions with their negations.
var negations = []struct {
	name    string
	b, want branch
}{
	{"true", always(), or()},
	{"not true", not(always()), always()},
	{"atom", atom(in, van, rome), not(atom(in, van, rome))},
	{"not an atom", not(atom(rain)), atom(rain)},
	{"twice not an atom", not(not(atom(rain))), not(atom(rain))},
	{"three times not an atom", not(not(not(atom(rain)))), atom(rain)},
	{"equality", equal(rome, van), not(equal(rome, van))},
	{"not an equality", not(equal(rome, van)), equal(rome, van)},
	{"no conjunct", and(), or()},
	{"no disjunct", or(), and()},
	{"not a disjunction", not(or(atom(rain), always())), or(atom(rain), always())},
	{"conjunction", and(atom(rain), always(), not(atom(rain))), or(not(atom(rain)), or(), atom(rain))},
	{"disjunction", or(and(), or(), equal(rome, rome)), and(or(), and(), not(equal(rome, rome)))},
	{"exists", exists(city, atom(seen, p0)), forAll(city, not(atom(seen, p0)))},
	{"for all", forAll(-1, not(atom(seen, p0))), exists(-1, atom(seen, p0))},
	{"not exists", not(exists(ghost, not(not(atom(seen, p0))))), exists(ghost, atom(seen, p0))},
	{"not for all", not(forAll(place, not(and(atom(rain), atom(seen, p0))))), forAll(place, or(not(atom(rain)), not(atom(seen, p0))))},
	{"nested", exists(-1, and(not(exists(-1, equal(p0, p1))), or(not(not(always())), forAll(truck, always())))),
		forAll(-1, or(exists(-1, equal(p0, p1)), and(or(), exists(truck, or()))))},
	{"in a positive conjunction", not(and(not(or(atom(rain), not(always()))), not(not(exists(-1, or()))))),
		and(and(not(atom(rain)), always()), exists(-1, or()))},

	// Nodes that remain or are exchanged keep the fields that their kind does not use. Those that are new have no such fields.
	{"unused fields of an atom", unused(atom(rain)), not(unused(atom(rain)))},
	{"unused fields of a positive atom", not(unused(atom(rain))), unused(atom(rain))},
	{"unused fields of an equality", unused(equal(rome, van)), not(unused(equal(rome, van)))},
	{"unused fields of not", unused(not(atom(rain))), atom(rain)},
	{"unused fields of true", not(unused(always())), unused(always())},
	{"unused fields of not true", unused(always()), or()},
	{"unused fields of a conjunction", unused(and(always())), unused(or(or()))},
	{"unused fields of a disjunction", unused(or()), unused(and())},
	{"unused fields of a positive disjunction", not(unused(or())), unused(or())},
	{"unused fields of exists", unused(exists(city, not(always()))), unused(forAll(city, always()))},
	{"unused fields of for all", unused(forAll(truck, not(always()))), unused(exists(truck, always()))},
}

// TestNegate covers R4.3 for single conditions.
func TestNegate(t *testing.T) {
	for _, c := range negations {
		for _, types := range [][]int{nil, {}} {
			got, f := condition.Negate(delivery(), with(types, c.b))
			if want := with(types, c.want); f != fault(0, 0) || !sameNodes(got.Nodes, want.Nodes) || len(got.Types) > 0 {
				t.Errorf("%s: got %v, %v, want %v", c.name, got, f, want)
			}
		}
	}
	got, f := condition.Negate(delivery(), trip())
	want := with([]int{truck, place}, and(
		not(atom(in, p0, p1)),
		equal(p1, bari),
		forAll(city, or(not(atom(road, p1, p2)), exists(-1, not(atom(seen, p3))))),
		or(),
	))
	if f != fault(0, 0) || !sameNodes(got.Nodes, want.Nodes) || !sameInts(got.Types, want.Types) {
		t.Errorf("got %v, %v, want %v", got, f, want)
	}
}

// TestNegateSize covers the limit of R4.3, which is reached only by atoms and equalities.
func TestNegateSize(t *testing.T) {
	for _, c := range []struct {
		name string
		b    branch
		ok   bool
	}{
		{"true as often as permitted", and(repeat(always(), 29)...), true},
		{"not true as often as permitted", and(append(repeat(not(always()), 14), always())...), true},
		{"14 atoms", and(repeat(atom(rain), 14)...), true},
		{"14 atoms and true", and(append(repeat(atom(rain), 14), always())...), true},
		{"14 atoms and true twice", and(append(repeat(atom(rain), 14), always(), always())...), false},
		{"15 atoms", and(repeat(atom(rain), 15)...), false},
		{"29 atoms", or(repeat(atom(rain), 29)...), false},
		{"29 equalities", or(repeat(equal(van, van), 29)...), false},
		{"14 negated atoms", or(repeat(not(atom(rain)), 14)...), true},
		{"28 positive atoms", not(and(repeat(atom(rain), 28)...)), true},
		{"7 negated and 15 other atoms", or(append(repeat(not(atom(rain)), 7), repeat(atom(rain), 15)...)...), false},
		{"9 negated and 10 other atoms", or(append(repeat(not(atom(rain)), 9), repeat(atom(rain), 10)...)...), true},
		{"9 negated and 10 other atoms and true", or(append(repeat(not(atom(rain)), 9), append(repeat(atom(rain), 10), always())...)...), false},
	} {
		want := fault(0, 0)
		if !c.ok {
			want = fault(api.ErrTooLarge, -13)
		}
		got, f := condition.Negate(delivery(), with([]int{-1}, c.b))
		if f != want || (len(got.Nodes) > 0) != c.ok || (len(got.Types) > 0) != c.ok {
			t.Errorf("%s: got %v, %v, want %v", c.name, got, f, want)
		}
		if c.ok && condition.Validate(delivery(), got) != fault(0, 0) {
			t.Errorf("%s: the result %v is invalid", c.name, got)
		}
	}
}
