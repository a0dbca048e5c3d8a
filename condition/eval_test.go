package condition_test

import (
	"math"
	"testing"

	"helmsman/api"
	"helmsman/condition"
)

// truths are conditions with their value in the domain of delivery.
var truths = []struct {
	name  string
	types []int
	root  branch
	atoms []api.Atom
	args  []int
	want  bool
}{
	{"true", nil, always(), nil, nil, true},
	{"not true", nil, not(always()), nil, nil, false},
	{"atom that is given", nil, atom(rain), []api.Atom{at(seen, key), at(rain)}, nil, true},
	{"atom that is not given", nil, atom(rain), []api.Atom{at(seen, key)}, nil, false},
	{"atom that is given twice", nil, atom(rain), []api.Atom{at(rain), at(rain)}, nil, true},
	{"initial atom that is not given", nil, atom(in, van, bari), nil, nil, false},
	{"atom with other arguments", nil, atom(seen, key), []api.Atom{at(seen, van)}, nil, false},
	{"atom with the same arguments in another order", nil, atom(road, rome, bari), []api.Atom{at(road, bari, rome)}, nil, false},
	{"atom with another predicate", nil, atom(road, bari, rome), []api.Atom{at(in, van, rome), at(seen, bari), at(rain)}, nil, false},
	{"atom with the first object", nil, atom(seen, rome), []api.Atom{at(rain)}, nil, false},

	{"equal objects", nil, equal(van, van), nil, nil, true},
	{"different objects", nil, equal(van, key), nil, nil, false},
	{"equal parameters", []int{-1, -1}, equal(p0, p1), nil, []int{key, key}, true},
	{"different parameters", []int{-1, -1}, equal(p0, p1), nil, []int{key, van}, false},
	{"parameter and its object", []int{-1, -1}, equal(key, p1), nil, []int{van, key}, true},
	{"parameter and another object", []int{-1, -1}, equal(p0, key), nil, []int{van, key}, false},

	{"parameters of an atom", []int{place, truck}, atom(in, p1, p0), []api.Atom{at(in, van, bari)}, []int{bari, van}, true},
	{"other parameters of an atom", []int{place, truck}, atom(in, p1, p0), []api.Atom{at(in, van, bari)}, []int{rome, van}, false},
	{"three parameters", []int{-1, -1, -1}, and(atom(seen, p0), atom(seen, p1), not(atom(seen, p2))), []api.Atom{at(seen, key), at(seen, van)}, []int{van, key, rome}, true},

	{"no conjunct", nil, and(), nil, nil, true},
	{"all conjuncts", nil, and(always(), atom(rain), always()), []api.Atom{at(rain)}, nil, true},
	{"first conjunct fails", nil, and(atom(rain), always()), nil, nil, false},
	{"last conjunct fails", nil, and(always(), atom(rain)), nil, nil, false},
	{"no disjunct", nil, or(), nil, nil, false},
	{"first disjunct", nil, or(always(), atom(rain)), nil, nil, true},
	{"last disjunct", nil, or(atom(rain), always()), nil, nil, true},
	{"no true disjunct", nil, or(atom(rain), or(), not(and())), nil, nil, false},

	{"exists", nil, exists(place, atom(road, p0, p0)), []api.Atom{at(road, bari, bari)}, nil, true},
	{"exists only of another type", nil, exists(city, atom(road, p0, p0)), []api.Atom{at(road, bari, bari)}, nil, false},
	{"exists of a narrower type", nil, exists(place, equal(p0, rome)), nil, nil, true},
	{"exists of no objects", nil, exists(ghost, always()), nil, nil, false},
	{"exists of all objects", nil, exists(-1, equal(p0, key)), nil, nil, true},
	{"for all", nil, forAll(place, atom(seen, p0)), []api.Atom{at(seen, rome), at(seen, bari)}, nil, true},
	{"for all but one", nil, forAll(place, atom(seen, p0)), []api.Atom{at(seen, rome), at(seen, van)}, nil, false},
	{"for all of no objects", nil, forAll(ghost, or()), nil, nil, true},
	{"for all objects", nil, forAll(-1, atom(seen, p0)), []api.Atom{at(seen, rome), at(seen, bari), at(seen, van)}, nil, false},
	{"for all there is a next one", nil, forAll(place, exists(place, atom(road, p0, p1))), []api.Atom{at(road, rome, bari), at(road, bari, rome)}, nil, true},
	{"there is one for all", nil, exists(place, forAll(place, atom(road, p0, p1))), []api.Atom{at(road, rome, bari), at(road, bari, rome)}, nil, false},
	{"there is one to all", nil, exists(place, forAll(place, atom(road, p1, p0))), []api.Atom{at(road, rome, bari), at(road, bari, bari)}, nil, true},
	{"quantifier after parameters", []int{truck, -1}, exists(place, and(atom(in, p0, p2), equal(p1, key))), []api.Atom{at(in, van, rome)}, []int{van, key}, true},
	{"quantifier after other parameters", []int{truck, -1}, exists(place, and(atom(in, p0, p2), equal(p1, key))), []api.Atom{at(in, van, rome)}, []int{van, rome}, false},
	{"quantifiers side by side", nil, and(exists(-1, equal(p0, rome)), exists(-1, equal(p0, key))), nil, nil, true},
	{"parameter after an inner quantifier", nil, exists(-1, and(exists(-1, equal(p1, key)), equal(p0, rome))), nil, nil, true},
	{"six parameters", nil, exists(-1, exists(-1, exists(-1, exists(-1, exists(-1, exists(-1, and(equal(p0, key), equal(p1, van), equal(p5, rome)))))))), nil, nil, true},
}

// TestEval covers R4.2 for single conditions.
func TestEval(t *testing.T) {
	for _, c := range truths {
		d := delivery()
		if got, f := condition.Eval(d, with(c.types, c.root), c.atoms, c.args); got != c.want || f != fault(0, 0) {
			t.Errorf("%s: got %v, %v, want %v", c.name, got, f, c.want)
		}
		if got, f := condition.Eval(d, with(c.types, not(c.root)), c.atoms, c.args); got == c.want || f != fault(0, 0) {
			t.Errorf("not %s: got %v, %v, want %v", c.name, got, f, !c.want)
		}
	}
}

// crowded returns the largest domain: all numbers of objects and predicates are used, and there are more than MaxGround atoms.
func crowded() api.Domain {
	var d api.Domain
	for i := range api.MaxObjects {
		d.Objects = append(d.Objects, api.Object{Name: string(rune('a' + i)), Type: -1})
	}
	for i := range api.MaxPredicates {
		d.Predicates = append(d.Predicates, api.Predicate{Name: string(rune('a' + i)), Types: []int{-1, -1, -1}})
	}
	return d
}

// TestCrowdedDomain covers that no two ground atoms are taken for the same one.
func TestCrowdedDomain(t *testing.T) {
	d := crowded()
	c := with([]int{-1, -1, -1}, atom(7, p2, p0, p1))
	var last []api.Atom
	for i := range api.MaxObjects * api.MaxObjects * api.MaxObjects {
		x, y, z := i/64, i/8%8, i%8
		if is, f := condition.Eval(d, c, []api.Atom{at(7, z, x, y)}, []int{x, y, z}); !is || f != fault(0, 0) {
			t.Errorf("the atom with %v is %v, %v", []int{z, x, y}, is, f)
		}
		if i > 0 {
			if is, f := condition.Eval(d, c, last, []int{x, y, z}); is || f != fault(0, 0) {
				t.Errorf("%v is taken for the atom with %v, %v", last, []int{z, x, y}, f)
			}
		}
		last = []api.Atom{at(7, z, x, y), at(6, y, z, x)}
	}
	all := nested(6, or(repeat(atom(0, p0, p1, p5), 23)...))
	if is, f := condition.Eval(d, closed(all), nil, nil); is || f != fault(0, 0) {
		t.Errorf("the longest evaluation is %v, %v", is, f)
	}
}

// TestLastType covers quantifiers of the last type of a domain with as many types as permitted.
func TestLastType(t *testing.T) {
	d := crowded()
	for i := range api.MaxTypes {
		d.Types = append(d.Types, api.Type{Name: string(rune('a' + i)), Parent: i - 1})
	}
	d.Objects[6].Type = 7
	c := closed(and(forAll(7, equal(p0, 6)), exists(7, equal(p0, 6))))
	if is, f := condition.Eval(d, c, nil, nil); !is || f != fault(0, 0) {
		t.Errorf("got %v, %v", is, f)
	}
	if got, f := condition.Cases(d, c, nil); !sameCases(got, lists(list())) || f != fault(0, 0) {
		t.Errorf("got %v, %v", got, f)
	}
}

// evalFault is a call of Eval with a condition that has the parameters truck and -1.
type evalFault struct {
	name  string
	atoms []api.Atom
	args  []int
	want  api.Fault
}

var evalFaults = []evalFault{
	{"nothing wrong", []api.Atom{at(rain), at(in, van, rome)}, []int{van, key}, fault(0, 0)},
	{"as many atoms as permitted", repeat(at(rain), api.MaxGround), []int{van, key}, fault(0, 0)},
	{"object of a narrower type", nil, []int{van, rome}, fault(0, 0)},

	{"one atom too many", repeat(at(rain), api.MaxGround+1), []int{van, key}, fault(api.ErrTooMany, -11)},
	{"far too many atoms, all invalid", repeat(at(9), 100000), []int{}, fault(api.ErrTooMany, -11)},
	{"unknown predicate", []api.Atom{at(rain), at(4), at(rain, key)}, []int{van, key}, fault(api.ErrNotFound, -11)},
	{"negative predicate", []api.Atom{at(-1)}, []int{van, key}, fault(api.ErrNotFound, -11)},
	{"length of an atom", []api.Atom{at(rain, key), at(4)}, []int{van, key}, fault(api.ErrLength, -11)},
	{"unknown object", []api.Atom{at(seen, key), at(seen, 4)}, []int{van, key}, fault(api.ErrRange, -11)},
	{"parameter in an atom", []api.Atom{at(seen, p0)}, []int{van, key}, fault(api.ErrRange, -11)},
	{"type in an atom", []api.Atom{at(in, van, van), at(seen, p0)}, []int{van, key}, fault(api.ErrWrongType, -11)},
	{"last atom", append(repeat(at(rain), api.MaxGround-1), at(seen, math.MaxInt)), []int{van, key}, fault(api.ErrRange, -11)},
	{"atom and argument", []api.Atom{at(4)}, []int{rome, 9}, fault(api.ErrNotFound, -11)},
	{"atom and number of arguments", []api.Atom{at(4)}, nil, fault(api.ErrNotFound, -11)},
}

// argFaults are arguments that are invalid for the parameters truck and -1.
var argFaults = []evalFault{
	{"no arguments", nil, nil, fault(api.ErrLength, -12)},
	{"one argument", nil, []int{van}, fault(api.ErrLength, -12)},
	{"three arguments", nil, []int{van, key, key}, fault(api.ErrLength, -12)},
	{"far too many arguments", nil, make([]int, 100000), fault(api.ErrLength, -12)},
	{"one wrong argument", nil, []int{99}, fault(api.ErrLength, -12)},
	{"argument after the objects", nil, []int{van, 4}, fault(api.ErrRange, -12)},
	{"parameter as an argument", nil, []int{p0, key}, fault(api.ErrRange, -12)},
	{"least argument", nil, []int{van, math.MinInt}, fault(api.ErrRange, -12)},
	{"greatest argument", nil, []int{van, math.MaxInt}, fault(api.ErrRange, -12)},
	{"type of an argument", nil, []int{key, key}, fault(api.ErrWrongType, -12)},
	{"type of an argument before a number", nil, []int{rome, 4}, fault(api.ErrWrongType, -12)},
	{"number before the type of an argument", nil, []int{4, 4}, fault(api.ErrRange, -12)},
}

// TestEvalFaults covers the errors of R4.2 that those of R4.1 come before.
func TestEvalFaults(t *testing.T) {
	for _, calls := range [][]evalFault{evalFaults, argFaults} {
		for _, c := range calls {
			is, f := condition.Eval(delivery(), with([]int{truck, -1}, always()), c.atoms, c.args)
			if f != c.want || is != (f == fault(0, 0)) {
				t.Errorf("%s: got %v, %v, want %v", c.name, is, f, c.want)
			}
			is, f = condition.Eval(delivery(), with([]int{truck, -1}, atom(9)), c.atoms, c.args)
			if f != fault(api.ErrNotFound, 100) || is {
				t.Errorf("%s with an invalid condition: got %v, %v", c.name, is, f)
			}
		}
	}
}

// TestArgumentTypes covers arguments of each type for parameters of each type.
func TestArgumentTypes(t *testing.T) {
	fits := map[int][]int{-1: {rome, bari, van, key}, place: {rome, bari}, city: {rome}, truck: {van}, ghost: nil}
	for parameter, objects := range fits {
		c := with([]int{parameter}, always())
		for o := range 4 {
			want := fault(api.ErrWrongType, -12)
			for _, fitting := range objects {
				if o == fitting {
					want = fault(0, 0)
				}
			}
			if _, f := condition.Eval(delivery(), c, nil, []int{o}); f != want {
				t.Errorf("Eval with object %d for type %d: got %v, want %v", o, parameter, f, want)
			}
			if _, f := condition.Cases(delivery(), c, []int{o}); f != want {
				t.Errorf("Cases with object %d for type %d: got %v, want %v", o, parameter, f, want)
			}
		}
	}
}
