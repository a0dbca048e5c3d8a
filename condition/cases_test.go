package condition_test

import (
	"testing"

	"helmsman/api"
	"helmsman/condition"
)

func pos(predicate int, args ...int) api.Literal { return api.Literal{Atom: at(predicate, args...)} }

func neg(predicate int, args ...int) api.Literal {
	return api.Literal{Negated: true, Atom: at(predicate, args...)}
}

// list is a case, and a list of cases is made from such lists.
func list(l ...api.Literal) []api.Literal { return l }

func lists(l ...[]api.Literal) [][]api.Literal { return l }

func sameLiteral(a, b api.Literal) bool {
	return a.Negated == b.Negated && a.Atom.Predicate == b.Atom.Predicate && sameInts(a.Atom.Args, b.Atom.Args)
}

func sameCase(a, b []api.Literal) bool {
	for i := range a {
		if i >= len(b) || !sameLiteral(a[i], b[i]) {
			return false
		}
	}
	return len(a) == len(b)
}

func sameCases(a, b [][]api.Literal) bool {
	for i := range a {
		if i >= len(b) || !sameCase(a[i], b[i]) {
			return false
		}
	}
	return len(a) == len(b)
}

// caseLists are conditions with their cases in the domain of delivery.
var caseLists = []struct {
	name  string
	types []int
	root  branch
	args  []int
	want  [][]api.Literal
}{
	{"true", nil, always(), nil, lists(list())},
	{"not true", nil, not(always()), nil, nil},
	{"atom", nil, atom(in, van, rome), nil, lists(list(pos(in, van, rome)))},
	{"not an atom", nil, not(atom(rain)), nil, lists(list(neg(rain)))},
	{"twice not an atom", nil, not(not(atom(rain))), nil, lists(list(pos(rain)))},
	{"true equality", nil, equal(van, van), nil, lists(list())},
	{"false equality", nil, equal(van, key), nil, nil},
	{"not a true equality", nil, not(equal(van, van)), nil, nil},
	{"not a false equality", nil, not(equal(van, key)), nil, lists(list())},
	{"parameters", []int{place, truck}, atom(in, p1, p0), []int{bari, van}, lists(list(pos(in, van, bari)))},
	{"equality of parameters", []int{place, place}, equal(p0, p1), []int{bari, bari}, lists(list())},
	{"equality of different parameters", []int{place, place}, equal(p0, p1), []int{bari, rome}, nil},

	{"no disjunct", nil, or(), nil, nil},
	{"disjunction", nil, or(atom(seen, key), atom(rain), atom(in, van, rome)), nil, lists(list(pos(seen, key)), list(pos(rain)), list(pos(in, van, rome)))},
	{"disjunction with repetitions", nil, or(atom(rain), atom(seen, key), atom(rain), not(atom(rain))), nil, lists(list(pos(rain)), list(pos(seen, key)), list(neg(rain)))},
	{"disjunction with true", nil, or(atom(rain), always(), atom(seen, key), always()), nil, lists(list(pos(rain)), list(), list(pos(seen, key)))},
	{"disjunction of disjunctions", nil, or(or(atom(rain), atom(seen, van)), or(atom(seen, van), atom(seen, key))), nil, lists(list(pos(rain)), list(pos(seen, van)), list(pos(seen, key)))},

	{"no conjunct", nil, and(), nil, lists(list())},
	{"conjunction in the order of predicates", nil, and(atom(rain), atom(seen, key), atom(in, van, rome)), nil, lists(list(pos(in, van, rome), pos(seen, key), pos(rain)))},
	{"conjunction in the order of arguments", nil, and(atom(road, bari, bari), atom(road, rome, bari), atom(road, bari, rome), atom(road, rome, rome)), nil,
		lists(list(pos(road, rome, rome), pos(road, rome, bari), pos(road, bari, rome), pos(road, bari, bari)))},
	{"conjunction of positive and negated atoms", nil, and(not(atom(seen, key)), atom(seen, van), not(atom(seen, rome)), atom(seen, bari)), nil,
		lists(list(neg(seen, rome), pos(seen, bari), pos(seen, van), neg(seen, key)))},
	{"conjunction with repetitions", nil, and(atom(rain), not(atom(seen, key)), atom(rain), not(atom(seen, key))), nil, lists(list(neg(seen, key), pos(rain)))},
	{"conjunction with true", nil, and(always(), atom(rain), always()), nil, lists(list(pos(rain)))},
	{"conjunction with false", nil, and(atom(rain), or(), atom(seen, key)), nil, nil},
	{"atom and its negation", nil, and(atom(rain), not(atom(rain))), nil, nil},
	{"negation and its atom", nil, and(not(atom(rain)), atom(seen, key), atom(rain)), nil, nil},
	{"negated atom with other arguments", nil, and(not(atom(seen, van)), atom(seen, key)), nil, lists(list(neg(seen, van), pos(seen, key)))},
	{"conjunction of disjunctions", nil, and(or(atom(seen, key), atom(rain)), or(atom(seen, van), atom(in, van, bari))), nil,
		lists(list(pos(seen, van), pos(seen, key)), list(pos(in, van, bari), pos(seen, key)), list(pos(seen, van), pos(rain)), list(pos(in, van, bari), pos(rain)))},
	{"conjunction of the same disjunctions", nil, and(or(atom(rain), atom(seen, key)), or(atom(seen, key), atom(rain))), nil,
		lists(list(pos(seen, key), pos(rain)), list(pos(rain)), list(pos(seen, key)))},
	{"conjunction of contradicting disjunctions", nil, and(or(atom(rain), not(atom(seen, key))), or(not(atom(rain)), atom(seen, key))), nil,
		lists(list(pos(seen, key), pos(rain)), list(neg(seen, key), neg(rain)))},
	{"conjunction from the first child on", nil, and(or(atom(rain), always()), or(always(), atom(seen, key)), or(atom(seen, van), always())), nil,
		lists(list(pos(seen, van), pos(rain)), list(pos(rain)), list(pos(seen, van), pos(seen, key), pos(rain)), list(pos(seen, key), pos(rain)),
			list(pos(seen, van)), list(), list(pos(seen, van), pos(seen, key)), list(pos(seen, key)))},
	{"cases that contain others remain", nil, or(and(atom(rain), atom(seen, key)), atom(rain)), nil, lists(list(pos(seen, key), pos(rain)), list(pos(rain)))},

	{"not a conjunction", nil, not(and(atom(rain), not(atom(seen, key)), always())), nil, lists(list(neg(rain)), list(pos(seen, key)))},
	{"not a disjunction", nil, not(or(atom(rain), not(atom(seen, key)), or())), nil, lists(list(pos(seen, key), neg(rain)))},

	{"exists", nil, exists(place, atom(seen, p0)), nil, lists(list(pos(seen, rome)), list(pos(seen, bari)))},
	{"exists of no objects", nil, exists(ghost, always()), nil, nil},
	{"exists with an equality", nil, exists(-1, and(not(equal(p0, van)), atom(seen, p0))), nil, lists(list(pos(seen, rome)), list(pos(seen, bari)), list(pos(seen, key)))},
	{"exists with repetitions", nil, exists(-1, atom(rain)), nil, lists(list(pos(rain)))},
	{"for all", nil, forAll(-1, not(atom(seen, p0))), nil, lists(list(neg(seen, rome), neg(seen, bari), neg(seen, van), neg(seen, key)))},
	{"for all of no objects", nil, forAll(ghost, or()), nil, lists(list())},
	{"for all with a choice", nil, forAll(place, or(atom(seen, p0), atom(in, van, p0))), nil,
		lists(list(pos(seen, rome), pos(seen, bari)), list(pos(in, van, bari), pos(seen, rome)), list(pos(in, van, rome), pos(seen, bari)), list(pos(in, van, rome), pos(in, van, bari)))},
	{"not exists", nil, not(exists(place, atom(seen, p0))), nil, lists(list(neg(seen, rome), neg(seen, bari)))},
	{"not for all", nil, not(forAll(place, atom(seen, p0))), nil, lists(list(neg(seen, rome)), list(neg(seen, bari)))},
	{"not exists of no objects", nil, not(exists(ghost, always())), nil, lists(list())},
	{"nested quantifiers", nil, exists(place, forAll(city, or(atom(road, p0, p1), equal(p0, p1)))), nil, lists(list(pos(road, rome, rome)), list(), list(pos(road, bari, rome)))},
	{"quantifiers side by side", nil, and(exists(truck, atom(seen, p0)), exists(city, atom(seen, p0))), nil, lists(list(pos(seen, rome), pos(seen, van)))},
	{"quantifier after parameters", []int{truck, place}, forAll(place, or(equal(p2, p1), not(atom(in, p0, p2)))), []int{van, bari},
		lists(list(neg(in, van, rome)), list(neg(in, van, rome), neg(in, van, bari)))},
}

// TestCases covers R4.4 for single conditions.
func TestCases(t *testing.T) {
	for _, c := range caseLists {
		got, f := condition.Cases(delivery(), with(c.types, c.root), c.args)
		if !sameCases(got, c.want) || f != fault(0, 0) {
			t.Errorf("%s: got %v, %v, want %v", c.name, got, f, c.want)
		}
		again, f := condition.Cases(delivery(), with(c.types, not(not(c.root))), c.args)
		if !sameCases(again, c.want) || f != fault(0, 0) {
			t.Errorf("twice not %s: got %v, %v, want %v", c.name, again, f, c.want)
		}
	}
}

// atoms returns atoms with predicates of the crowded domain: from, from+1 and so on. Their arguments tell them apart from other lists.
func atoms(from, n, mark int) []branch {
	var l []branch
	for i := range n {
		l = append(l, atom((from+i)%8, mark, (from+i)/8, 0))
	}
	return l
}

// product returns a conjunction of two disjunctions of different atoms, which has m*n cases.
func product(m, n, mark int) branch { return and(or(atoms(0, m, mark)...), or(atoms(0, n, mark+1)...)) }

// sizes are conditions for the crowded domain with the numbers of their cases, or -1 if there are too many.
var sizes = []struct {
	name string
	root branch
	want int
}{
	{"as many cases as permitted", product(5, 8, 0), 40},
	{"too many cases", product(6, 7, 0), -1},
	{"a disjunct too many", or(product(5, 8, 0), atom(0, 7, 7, 7)), -1},
	{"a disjunct that occurs already", or(product(5, 8, 0), product(1, 1, 0)), 40},
	{"a disjunct with no cases", or(product(5, 8, 0), or()), 40},
	{"a disjunct that is true", or(always(), product(5, 8, 0)), -1},
	{"disjunction of many", or(product(4, 5, 0), product(4, 5, 2)), 40},

	{"too many cases of a conjunct", and(or(), product(6, 7, 0)), -1},
	{"too many cases of a conjunct after a contradiction", and(atom(0, 7, 7, 7), not(atom(0, 7, 7, 7)), product(6, 7, 0)), -1},
	{"too many cases of the first conjuncts", and(or(atoms(0, 6, 0)...), or(atoms(0, 7, 1)...), or()), -1},
	{"too many cases of the last conjuncts only", and(or(), or(atoms(0, 6, 0)...), or(atoms(0, 7, 1)...)), 0},
	{"too many unions that occur already", and(or(atoms(0, 8, 0)...), or(atoms(0, 8, 0)...)), 36},
	{"too many unions", and(or(atoms(0, 9, 0)...), or(atoms(0, 9, 0)...)), -1},
	{"too many conjuncts", and(or(atoms(0, 3, 0)...), or(atoms(0, 3, 1)...), or(atoms(0, 4, 2)...), or(atoms(0, 2, 3)...)), -1},
	{"too many cases of a negated disjunct", not(or(always(), not(product(6, 7, 0)))), -1},
	{"many cases that are negated", not(product(6, 7, 0)), 2},
	{"conjunction that is negated", not(and(not(product(5, 4, 0)), not(product(5, 4, 2)))), 40},
	{"disjunction that is negated", not(or(and(not(atom(0, 0, 0, 0)), not(atom(0, 0, 0, 1))), and(not(atom(0, 1, 0, 0)), not(atom(0, 1, 0, 1))))), 4},

	{"instances", exists(-1, exists(0, atom(0, p0, p1, 0))), 40},
	{"too many instances", exists(-1, exists(-1, atom(0, p0, p1, 0))), -1},
	{"instances of which some are false", exists(-1, exists(-1, and(not(equal(p0, p1)), not(equal(p0, 0)), not(equal(p0, 1)), atom(0, p0, p1, 0)))), -1},
	{"instances of which more are false", exists(-1, exists(0, and(not(equal(p0, p1)), atom(0, p0, p1, 0)))), 35},
	{"instances that occur twice", exists(-1, exists(-1, or(atom(0, p0, 0, 0), atom(0, 0, p1, 0)))), 15},
	{"too many cases of an instance", exists(-1, and(equal(p0, 7), product(6, 7, 0))), -1},
	{"too many cases of the first conjuncts of an instance", forAll(-1, and(or(atoms(0, 6, 0)...), or(atoms(0, 7, 1)...), or())), -1},
	{"too many cases of one instance", exists(-1, and(or(equal(p0, 7), atom(0, 0, 0, 0)), or(atoms(0, 6, 0)...), or(atoms(0, 7, 1)...), or())), -1},
	{"too many cases of the first instances", forAll(-1, and(or(atom(0, p0, 0, 0), atom(1, p0, 0, 0)), not(equal(p0, 7)))), -1},
	{"false first instance", forAll(-1, and(or(atom(0, p0, 0, 0), atom(1, p0, 0, 0)), not(equal(p0, 0)))), 0},
	{"false second instance", forAll(-1, and(or(atom(0, p0, 0, 0), atom(1, p0, 0, 0)), not(equal(p0, 1)))), 0},
	{"too many cases without instances", and(forAll(-1, always()), exists(1, product(6, 7, 0))), 0},
	{"for all without instances", forAll(1, product(6, 7, 0)), 1},
	{"quantifiers without instances within", forAll(-1, forAll(1, product(6, 7, 0))), 1},
	{"quantifiers without instances around", exists(1, forAll(-1, product(6, 7, 0))), 0},

	{"as many instances as permitted", exists(-1, exists(-1, exists(-1, exists(-1, exists(-1, exists(-1, or())))))), 0},
	{"as many instances as permitted for all", forAll(-1, forAll(-1, forAll(-1, forAll(-1, forAll(-1, forAll(-1, always())))))), 1},
	{"as many literals as possible", forAll(-1, forAll(-1, forAll(-1, atom(7, p1, p2, p0)))), 1},
}

// TestSizes covers the limit of R4.4.
func TestSizes(t *testing.T) {
	d := crowded()
	// All objects but three have the type 0, and none has the type 1.
	d.Types = []api.Type{{Name: "few", Parent: -1}, {Name: "none", Parent: -1}}
	for i := range 5 {
		d.Objects[i].Type = 0
	}
	for _, c := range sizes {
		want := fault(0, 0)
		if c.want < 0 {
			want = fault(api.ErrTooLarge, -13)
		}
		got, f := condition.Cases(d, closed(c.root), nil)
		if f != want || len(got) != max(0, c.want) {
			t.Errorf("%s: got %d cases, %v, want %d", c.name, len(got), f, c.want)
		}
	}
}

// TestManyLiterals covers a case with all atoms of a predicate, which are found in another order.
func TestManyLiterals(t *testing.T) {
	got, f := condition.Cases(crowded(), closed(forAll(-1, forAll(-1, forAll(-1, atom(7, p1, p2, p0))))), nil)
	var want []api.Literal
	for i := range 512 {
		want = append(want, pos(7, i/64, i/8%8, i%8))
	}
	if f != fault(0, 0) || !sameCases(got, lists(want)) {
		t.Errorf("got %v, %v", got, f)
	}
}

// TestCasesFaults covers the errors of R4.4 that those of R4.1 come before, in their order.
func TestCasesFaults(t *testing.T) {
	tooLarge := nested(4, and(exists(-1, atom(seen, p6)), exists(-1, atom(seen, p6))))
	for _, c := range argFaults {
		for _, root := range []branch{always(), tooMany()} {
			if got, f := condition.Cases(delivery(), with([]int{truck, -1}, root), c.args); f != c.want || got != nil {
				t.Errorf("%s: got %v, %v, want %v", c.name, got, f, c.want)
			}
		}
		if got, f := condition.Cases(delivery(), with([]int{truck, -1}, tooLarge), c.args); f != fault(api.ErrTooMany, 101) || got != nil {
			t.Errorf("%s with an invalid condition: got %v, %v", c.name, got, f)
		}
	}
	if got, f := condition.Cases(delivery(), with([]int{truck, -1}, tooMany()), []int{van, key}); f != fault(api.ErrTooLarge, -13) || got != nil {
		t.Errorf("too many cases: got %v, %v", got, f)
	}
}

// tooMany returns a branch for the domain of delivery that has too many cases.
func tooMany() branch {
	each := exists(-1, or(atom(seen, key), atom(rain), exists(place, exists(place, atom(road, p3, p4)))))
	return and(each, exists(-1, atom(seen, p2)), or(atom(in, van, rome), atom(in, van, bari), not(atom(rain))))
}
