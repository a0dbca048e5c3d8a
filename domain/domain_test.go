package domain_test

import (
	"math"
	"slices"
	"strings"
	"testing"

	"helmsman/api"
	"helmsman/domain"
)

func fault(code, index int) api.Fault { return api.Fault{Code: code, Index: index} }

// codeAt returns the fault with a code at an index, or the zero value if the code is OK.
func codeAt(code, index int) api.Fault {
	if code == api.OK {
		return api.Fault{}
	}
	return fault(code, index)
}

func ty(name string, parent int) api.Type { return api.Type{Name: name, Parent: parent} }

func ob(name string, t int) api.Object { return api.Object{Name: name, Type: t} }

func pr(name string, types ...int) api.Predicate { return api.Predicate{Name: name, Types: types} }

func at(predicate int, args ...int) api.Atom { return api.Atom{Predicate: predicate, Args: args} }

func pos(a api.Atom) api.Literal { return api.Literal{Atom: a} }

func neg(a api.Atom) api.Literal { return api.Literal{Negated: true, Atom: a} }

func repeat[E any](e E, n int) []E { return slices.Repeat([]E{e}, n) }

// name returns a name that differs for different numbers below 26*26.
func name(i int) string { return string([]byte{'a' + byte(i/26), 'a' + byte(i%26)}) }

// names returns n elements with different names.
func names[E any](n int, of func(name string) E) []E {
	var l []E
	for i := range n {
		l = append(l, of(name(i)))
	}
	return l
}

// farNumbers are not the numbers of anything.
var farNumbers = []int{math.MinInt, math.MinInt + 1, -1000, 1000, math.MaxInt - 1, math.MaxInt}

// Numbers of what is in the domain below.
const (
	place, city, truck                 = 0, 1, 2    // types: a city is a place
	rome, bari, van, key               = 0, 1, 2, 3 // objects of the types city, place, truck and object
	in, road, seen, rain               = 0, 1, 2, 3 // predicates
	drive, halt                        = 0, 1       // schemas
	parameter0, parameter1, parameter2 = -1, -2, -3
)

// delivery returns a valid domain.
func delivery() api.Domain {
	return api.Domain{
		Types:      []api.Type{ty("place", -1), ty("city", place), ty("truck", -1)},
		Objects:    []api.Object{ob("rome", city), ob("bari", place), ob("van", truck), ob("key", -1)},
		Predicates: []api.Predicate{pr("in", truck, place), pr("road", place, place), pr("seen", -1), pr("rain")},
		Schemas: []api.Schema{
			{
				Name: "drive", Types: []int{truck, place, city}, Different: [][2]int{{1, 2}},
				Pre: []api.Literal{pos(at(in, parameter0, parameter1)), pos(at(road, parameter1, parameter2)), neg(at(rain))},
				Add: []api.Atom{at(in, parameter0, parameter2), at(seen, parameter2)},
				Del: []api.Atom{at(in, parameter0, parameter1)}, Cost: 12,
			},
			{Name: "halt", Types: []int{-1}, Add: []api.Atom{at(seen, key)}},
		},
		Init: []api.Atom{at(in, van, bari), at(road, bari, rome), at(road, rome, bari)},
		Goal: []api.Literal{pos(at(in, van, rome)), neg(at(seen, key))},
	}
}

const deliveryText = "(domain (types (place object) (city place) (truck object))" +
	" (objects (rome city) (bari place) (van truck) (key object))" +
	" (predicates (in truck place) (road place place) (seen object) (rain))" +
	" (action drive (truck place city) (different (1 2)) (pre (in ?0 ?1) (road ?1 ?2) (not (rain))) (add (in ?0 ?2) (seen ?2)) (del (in ?0 ?1)) 12)" +
	" (action halt (object) (different) (pre) (add (seen key)) (del) 0)" +
	" (init (in van bari) (road bari rome) (road rome bari))" +
	" (goal (in van rome) (not (seen key))))"

// change is a way to change the domain of delivery, and what Validate then reports.
type change struct {
	name  string
	apply func(d *api.Domain)
	want  api.Fault
}

func (c change) of(d api.Domain) api.Domain {
	c.apply(&d)
	return d
}

// checkChanges applies each change to the domain of delivery.
func checkChanges(t *testing.T, changes []change) {
	t.Helper()
	for _, c := range changes {
		d := c.of(delivery())
		if got := domain.Validate(d); got != c.want {
			t.Errorf("%s: got %v, want %v", c.name, got, c.want)
		}
		if text, f := domain.Print(d); c.want != fault(0, 0) && (text != "" || f != c.want) {
			t.Errorf("%s: Print = %q, %v, want %v", c.name, text, f, c.want)
		}
	}
}

// validChanges lead to valid domains: the edges of what is permitted.
var validChanges = []change{
	{"nothing", func(d *api.Domain) {}, fault(0, 0)},
	{"zero value", func(d *api.Domain) { *d = api.Domain{} }, fault(0, 0)},
	{"as many types as permitted", func(d *api.Domain) {
		d.Types = append(d.Types, names(api.MaxTypes-3, func(s string) api.Type { return ty(s, city) })...)
	}, fault(0, 0)},
	{"as many objects as permitted", func(d *api.Domain) {
		d.Objects = append(d.Objects, names(api.MaxObjects-4, func(s string) api.Object { return ob(s, -1) })...)
	}, fault(0, 0)},
	{"as many predicates as permitted", func(d *api.Domain) {
		d.Predicates = append(d.Predicates, names(api.MaxPredicates-4, func(s string) api.Predicate { return pr(s, -1, 0, 2) })...)
	}, fault(0, 0)},
	{"as many schemas as permitted", func(d *api.Domain) {
		d.Schemas = append(d.Schemas, names(api.MaxSchemas-2, func(s string) api.Schema { return api.Schema{Name: s} })...)
	}, fault(0, 0)},
	{"as much in a schema as permitted", func(d *api.Domain) {
		a := at(road, parameter0, parameter2)
		d.Schemas[halt] = api.Schema{
			Name: "abcdefghij-0", Types: []int{0, -1, 1}, Different: repeat([2]int{0, 2}, api.MaxLiterals),
			Pre: repeat(neg(a), api.MaxLiterals), Add: repeat(a, api.MaxLiterals), Del: repeat(a, api.MaxLiterals), Cost: api.MaxCost,
		}
	}, fault(0, 0)},
	{"as many atoms as permitted", func(d *api.Domain) { d.Init = manyAtoms(d, api.MaxAtoms) }, fault(0, 0)},
	{"as many goals as permitted", func(d *api.Domain) { d.Goal = repeat(neg(at(rain)), api.MaxLiterals) }, fault(0, 0)},
	{"a literal and its negation", func(d *api.Domain) { d.Goal = []api.Literal{pos(at(rain)), neg(at(rain))} }, fault(0, 0)},
	{"same atom in add and del", func(d *api.Domain) { d.Schemas[halt].Del = d.Schemas[halt].Add }, fault(0, 0)},
	{"schema named not", func(d *api.Domain) { d.Schemas[halt].Name = "not" }, fault(0, 0)},
	{"everything named object", func(d *api.Domain) {
		d.Objects[key].Name, d.Predicates[rain].Name, d.Schemas[halt].Name = "object", "object", "object"
	}, fault(0, 0)},
	{"everything with the name of a type", func(d *api.Domain) {
		d.Objects[key].Name, d.Predicates[rain].Name, d.Schemas[halt].Name = "city", "city", "city"
	}, fault(0, 0)},
	{"type and object named not", func(d *api.Domain) { d.Types[city].Name, d.Objects[key].Name = "not", "not" }, fault(0, 0)},
	{"least different parameters", func(d *api.Domain) { d.Schemas[drive].Different = [][2]int{{0, 1}, {0, 2}, {1, 2}} }, fault(0, 0)},
	{"same predicate with other arguments", func(d *api.Domain) { d.Init = []api.Atom{at(seen, key), at(seen, van), at(rain)} }, fault(0, 0)},
	{"empty lists", func(d *api.Domain) {
		d.Schemas[halt] = api.Schema{Name: "halt", Types: []int{}, Different: [][2]int{}, Pre: []api.Literal{}, Add: []api.Atom{{Predicate: rain, Args: []int{}}}}
		d.Init, d.Goal = []api.Atom{}, []api.Literal{}
	}, fault(0, 0)},
}

// manyAtoms returns n different atoms over a further predicate with three arguments.
func manyAtoms(d *api.Domain, n int) []api.Atom {
	d.Predicates = append(d.Predicates, pr("three", -1, -1, -1))
	var l []api.Atom
	for i := range n {
		l = append(l, at(len(d.Predicates)-1, i%4, i/4%4, i/16))
	}
	return l
}

// TestValidDomains covers R3.2 for valid domains.
func TestValidDomains(t *testing.T) { checkChanges(t, validChanges) }

// orderedChanges lead to errors, in the order in which R3.2 checks them. Any of them can be combined.
var orderedChanges = []change{
	{"too many types", func(d *api.Domain) {
		d.Types = append(d.Types, names(api.MaxTypes-2, func(s string) api.Type { return ty(s, -1) })...)
	}, fault(api.ErrTooMany, -1)},
	{"name of a type", func(d *api.Domain) { d.Types[place].Name = "Place" }, fault(api.ErrName, -1)},
	{"parent of a type", func(d *api.Domain) { d.Types[city].Parent = truck }, fault(api.ErrRange, -1)},
	{"same name of types", func(d *api.Domain) { d.Types[truck].Name = "city" }, fault(api.ErrExists, -1)},

	{"too many objects", func(d *api.Domain) {
		d.Objects = append(d.Objects, names(api.MaxObjects-3, func(s string) api.Object { return ob(s, -1) })...)
	}, fault(api.ErrTooMany, -2)},
	{"name of an object", func(d *api.Domain) { d.Objects[bari].Name = "" }, fault(api.ErrName, -2)},
	{"same name of objects", func(d *api.Domain) { d.Objects[van].Name = "rome" }, fault(api.ErrExists, -2)},
	{"type of an object", func(d *api.Domain) { d.Objects[key].Type = 99 }, fault(api.ErrRange, -2)},

	{"too many predicates", func(d *api.Domain) {
		d.Predicates = append(d.Predicates, names(api.MaxPredicates-3, func(s string) api.Predicate { return pr(s) })...)
	}, fault(api.ErrTooMany, -3)},
	{"name of a predicate", func(d *api.Domain) { d.Predicates[in].Name = "not" }, fault(api.ErrName, -3)},
	{"too many types of a predicate", func(d *api.Domain) { d.Predicates[road].Types = []int{-9, 0, 0, 0} }, fault(api.ErrTooMany, -3)},
	{"same name of predicates", func(d *api.Domain) { d.Predicates[seen].Name = "road" }, fault(api.ErrExists, -3)},
	{"type of a predicate", func(d *api.Domain) { d.Predicates[rain].Types = []int{-2} }, fault(api.ErrRange, -3)},

	{"too many schemas", func(d *api.Domain) {
		d.Schemas = append(d.Schemas, names(api.MaxSchemas-1, func(s string) api.Schema { return api.Schema{Name: s} })...)
	}, fault(api.ErrTooMany, -4)},
	{"name of a schema", func(d *api.Domain) { d.Schemas[drive].Name = "-" }, fault(api.ErrName, 0)},
	{"type of a parameter", func(d *api.Domain) { d.Schemas[drive].Types = []int{truck, 99, city} }, fault(api.ErrRange, 0)},
	{"too many pairs", func(d *api.Domain) { d.Schemas[drive].Different = repeat([2]int{2, 1}, api.MaxLiterals+1) }, fault(api.ErrTooMany, 0)},
	{"precondition", func(d *api.Domain) { d.Schemas[drive].Pre = []api.Literal{neg(at(rain)), neg(at(rain, key))} }, fault(api.ErrLength, 0)},
	{"addition", func(d *api.Domain) { d.Schemas[drive].Add = []api.Atom{at(rain), at(in, van, van)} }, fault(api.ErrWrongType, 0)},
	{"deletion", func(d *api.Domain) { d.Schemas[drive].Del = []api.Atom{at(99)} }, fault(api.ErrNotFound, 0)},
	{"cost", func(d *api.Domain) { d.Schemas[drive].Cost = api.MaxCost + 1 }, fault(api.ErrRange, 0)},
	{"too many parameters", func(d *api.Domain) { d.Schemas[halt].Types = repeat(-1, api.MaxParameters+1) }, fault(api.ErrTooMany, 1)},
	{"pair", func(d *api.Domain) { d.Schemas[halt].Different = [][2]int{{0, 0}} }, fault(api.ErrRange, 1)},
	{"too long precondition", func(d *api.Domain) { d.Schemas[halt].Pre = repeat(pos(at(99)), api.MaxLiterals+1) }, fault(api.ErrTooMany, 1)},
	{"too many additions", func(d *api.Domain) { d.Schemas[halt].Add = repeat(at(rain), api.MaxLiterals+1) }, fault(api.ErrTooMany, 1)},
	{"too many deletions", func(d *api.Domain) { d.Schemas[halt].Del = repeat(at(rain), api.MaxLiterals+1) }, fault(api.ErrTooMany, 1)},
	{"negative cost", func(d *api.Domain) { d.Schemas[halt].Cost = -1 }, fault(api.ErrRange, 1)},

	{"too many atoms", func(d *api.Domain) { d.Init = append(manyAtoms(d, api.MaxAtoms), d.Init...) }, fault(api.ErrTooMany, -5)},
	{"unknown object in an atom", func(d *api.Domain) { d.Init[2] = at(seen, 99) }, fault(api.ErrRange, -5)},
	{"same atoms", func(d *api.Domain) { d.Init[1] = at(in, van, bari) }, fault(api.ErrExists, -5)},

	{"too many goals", func(d *api.Domain) { d.Goal = append(d.Goal, repeat(pos(at(rain)), api.MaxLiterals-1)...) }, fault(api.ErrTooMany, -6)},
	{"parameter in the goal", func(d *api.Domain) { d.Goal[0] = neg(at(seen, parameter0)) }, fault(api.ErrRange, -6)},
}

// TestOrderOfErrors covers the errors of R3.2 and the order in which they are checked: of any two errors, the one that is checked first is reported.
func TestOrderOfErrors(t *testing.T) {
	checkChanges(t, orderedChanges)
	for i, first := range orderedChanges {
		for _, second := range orderedChanges[i+1:] {
			d := first.of(second.of(delivery()))
			if got := domain.Validate(d); got != first.want {
				t.Errorf("%s and %s: got %v, want %v", first.name, second.name, got, first.want)
			}
		}
	}
}

// furtherChanges lead to errors that cannot be combined freely with those above.
var furtherChanges = []change{
	{"types after objects", func(d *api.Domain) { d.Types = nil }, fault(api.ErrRange, -2)},
	{"far too many predicates, all invalid", func(d *api.Domain) { d.Predicates = make([]api.Predicate, 10000) }, fault(api.ErrTooMany, -3)},
	{"far too many schemas, all invalid", func(d *api.Domain) { d.Schemas = make([]api.Schema, 10000) }, fault(api.ErrTooMany, -4)},
	{"far too many atoms, all invalid", func(d *api.Domain) { d.Init = repeat(at(99, 99), 10000) }, fault(api.ErrTooMany, -5)},
	{"far too many goals, all invalid", func(d *api.Domain) { d.Goal = repeat(pos(at(99, 99)), 10000) }, fault(api.ErrTooMany, -6)},

	{"predicate without name", func(d *api.Domain) { d.Predicates[seen].Name = "" }, fault(api.ErrName, -3)},
	{"predicates named not", func(d *api.Domain) { d.Predicates[in].Name, d.Predicates[seen].Name = "not", "not" }, fault(api.ErrName, -3)},
	{"invalid predicate after the same names", func(d *api.Domain) { d.Predicates[road].Name, d.Predicates[seen].Name = "in", "not" }, fault(api.ErrExists, -3)},
	{"same name and type of a predicate", func(d *api.Domain) { d.Predicates[road] = pr("in", 99) }, fault(api.ErrExists, -3)},
	{"same predicate with other types", func(d *api.Domain) { d.Predicates = append(d.Predicates, pr("rain", -1)) }, fault(api.ErrExists, -3)},
	{"last predicate is the first one", func(d *api.Domain) { d.Predicates[rain] = pr("in") }, fault(api.ErrExists, -3)},
	{"many types of a predicate", func(d *api.Domain) { d.Predicates[rain].Types = repeat(-1, api.MaxParameters+1) }, fault(api.ErrTooMany, -3)},
	{"last type of a predicate", func(d *api.Domain) { d.Predicates[rain].Types = []int{-1, 2, 3} }, fault(api.ErrRange, -3)},

	{"last schema without name", func(d *api.Domain) { d.Schemas[halt].Name = "" }, fault(api.ErrName, 1)},
	{"schemas without name", func(d *api.Domain) { d.Schemas[drive].Name, d.Schemas[halt].Name = "", "" }, fault(api.ErrName, 0)},
	{"same name of schemas", func(d *api.Domain) { d.Schemas[halt].Name = "drive" }, fault(api.ErrExists, 1)},
	{"schemas named not", func(d *api.Domain) { d.Schemas[drive].Name, d.Schemas[halt].Name = "not", "not" }, fault(api.ErrExists, 1)},
	{"same name and types of a schema", func(d *api.Domain) { d.Schemas[halt] = api.Schema{Name: "drive", Types: []int{99}} }, fault(api.ErrExists, 1)},
	{"name and types of a schema", func(d *api.Domain) { d.Schemas[halt] = api.Schema{Name: "?", Types: []int{99}} }, fault(api.ErrName, 1)},
	{"schema, then name", func(d *api.Domain) { d.Schemas[drive].Cost, d.Schemas[halt].Name = -1, "?" }, fault(api.ErrRange, 0)},
	{"too many parameters, one invalid", func(d *api.Domain) { d.Schemas[halt].Types = []int{99, -1, -1, -1} }, fault(api.ErrTooMany, 1)},
	{"type of the last parameter", func(d *api.Domain) { d.Schemas[drive].Types[2] = 3 }, fault(api.ErrRange, 0)},
	{"too many parameters, their types", func(d *api.Domain) {
		d.Schemas[halt] = api.Schema{Name: "halt", Types: repeat(-1, 9), Add: []api.Atom{at(seen, -9)}}
	}, fault(api.ErrTooMany, 1)},
	{"too many valid pairs", func(d *api.Domain) { d.Schemas[drive].Different = repeat([2]int{1, 2}, api.MaxLiterals+1) }, fault(api.ErrTooMany, 0)},
	{"pair in the wrong order", func(d *api.Domain) { d.Schemas[drive].Different = [][2]int{{0, 1}, {2, 1}} }, fault(api.ErrRange, 0)},
	{"pair of one parameter", func(d *api.Domain) { d.Schemas[drive].Different = [][2]int{{1, 1}} }, fault(api.ErrRange, 0)},
	{"pair with no such parameter", func(d *api.Domain) { d.Schemas[drive].Different = [][2]int{{2, 3}} }, fault(api.ErrRange, 0)},
	{"pair with a negative number", func(d *api.Domain) { d.Schemas[drive].Different = [][2]int{{-1, 1}} }, fault(api.ErrRange, 0)},
	{"greatest cost", func(d *api.Domain) { d.Schemas[halt].Cost = math.MaxInt }, fault(api.ErrRange, 1)},
	{"least cost", func(d *api.Domain) { d.Schemas[halt].Cost = math.MinInt }, fault(api.ErrRange, 1)},

	{"one atom too many", func(d *api.Domain) { d.Init = manyAtoms(d, api.MaxAtoms+1) }, fault(api.ErrTooMany, -5)},
	{"the same atom too many times", func(d *api.Domain) { d.Init = repeat(at(rain), api.MaxAtoms+1) }, fault(api.ErrTooMany, -5)},
	{"same atoms, then an invalid one", func(d *api.Domain) { d.Init = []api.Atom{at(rain), at(rain), at(rain, 0)} }, fault(api.ErrLength, -5)},
	{"last atom is the first one", func(d *api.Domain) {
		d.Init = manyAtoms(d, api.MaxAtoms)
		d.Init[api.MaxAtoms-1] = d.Init[0]
	}, fault(api.ErrExists, -5)},
	{"same atom without arguments", func(d *api.Domain) { d.Init = []api.Atom{at(rain), {Predicate: rain, Args: []int{}}} }, fault(api.ErrExists, -5)},
	{"parameter in an atom", func(d *api.Domain) { d.Init = []api.Atom{at(seen, parameter0)} }, fault(api.ErrRange, -5)},
	{"one goal too many", func(d *api.Domain) { d.Goal = repeat(neg(at(rain)), api.MaxLiterals+1) }, fault(api.ErrTooMany, -6)},
	{"zero atom without predicates", func(d *api.Domain) { *d = api.Domain{Init: []api.Atom{{}}} }, fault(api.ErrNotFound, -5)},
	{"zero literal without predicates", func(d *api.Domain) { *d = api.Domain{Goal: []api.Literal{{}}} }, fault(api.ErrNotFound, -6)},
}

// TestFurtherErrors covers errors of R3.2 at the edges.
func TestFurtherErrors(t *testing.T) { checkChanges(t, furtherChanges) }

// TestFarNumbers covers R3.1 and R3.2 for numbers that are far outside their ranges.
func TestFarNumbers(t *testing.T) {
	for _, far := range farNumbers {
		checkChanges(t, []change{
			{"parent", func(d *api.Domain) { d.Types[city].Parent = far }, fault(api.ErrRange, -1)},
			{"type of an object", func(d *api.Domain) { d.Objects[rome].Type = far }, fault(api.ErrRange, -2)},
			{"type of a predicate", func(d *api.Domain) { d.Predicates[in].Types[1] = far }, fault(api.ErrRange, -3)},
			{"type of a parameter", func(d *api.Domain) { d.Schemas[halt].Types[0] = far }, fault(api.ErrRange, 1)},
			{"first of a pair", func(d *api.Domain) { d.Schemas[drive].Different[0][0] = far }, fault(api.ErrRange, 0)},
			{"second of a pair", func(d *api.Domain) { d.Schemas[drive].Different[0][1] = far }, fault(api.ErrRange, 0)},
			{"cost", func(d *api.Domain) { d.Schemas[halt].Cost = far }, fault(api.ErrRange, 1)},
			{"argument of a precondition", func(d *api.Domain) { d.Schemas[drive].Pre[0].Atom.Args[0] = far }, fault(api.ErrRange, 0)},
			{"predicate of an addition", func(d *api.Domain) { d.Schemas[drive].Add[1].Predicate = far }, fault(api.ErrNotFound, 0)},
			{"argument of a deletion", func(d *api.Domain) { d.Schemas[drive].Del[0].Args[1] = far }, fault(api.ErrRange, 0)},
			{"predicate of an atom", func(d *api.Domain) { d.Init[0].Predicate = far }, fault(api.ErrNotFound, -5)},
			{"argument of an atom", func(d *api.Domain) { d.Init[2].Args[1] = far }, fault(api.ErrRange, -5)},
			{"predicate of a goal", func(d *api.Domain) { d.Goal[1].Atom.Predicate = far }, fault(api.ErrNotFound, -6)},
			{"argument of a goal", func(d *api.Domain) { d.Goal[1].Atom.Args[0] = far }, fault(api.ErrRange, -6)},
		})
	}
}

// atomCases are atoms with their codes in a schema with parameters of the types truck, place and city, and in Init and Goal, where there are no parameters.
var atomCases = []struct {
	a              api.Atom
	schema, ground int
}{
	{at(rain), api.OK, api.OK},
	{at(in, van, rome), api.OK, api.OK},
	{at(in, van, bari), api.OK, api.OK},
	{at(seen, rome), api.OK, api.OK},
	{at(seen, van), api.OK, api.OK},
	{at(seen, key), api.OK, api.OK},
	{at(in, parameter0, parameter1), api.OK, api.ErrRange},
	{at(in, parameter0, parameter2), api.OK, api.ErrRange},
	{at(in, van, parameter2), api.OK, api.ErrRange},
	{at(in, parameter0, bari), api.OK, api.ErrRange},
	{at(seen, parameter0), api.OK, api.ErrRange},
	{at(seen, parameter2), api.OK, api.ErrRange},
	{at(road, parameter1, parameter1), api.OK, api.ErrRange},

	{at(-1), api.ErrNotFound, api.ErrNotFound},
	{at(4), api.ErrNotFound, api.ErrNotFound},
	{at(4, 99, 99, 99, 99), api.ErrNotFound, api.ErrNotFound},
	{at(-1, parameter0), api.ErrNotFound, api.ErrNotFound},

	{at(rain, key), api.ErrLength, api.ErrLength},
	{at(seen), api.ErrLength, api.ErrLength},
	{at(in, van), api.ErrLength, api.ErrLength},
	{at(in, van, rome, rome), api.ErrLength, api.ErrLength},
	{at(in, 99), api.ErrLength, api.ErrLength},
	{at(in, van, 99, 99), api.ErrLength, api.ErrLength},
	{api.Atom{Predicate: rain, Args: make([]int, 10000)}, api.ErrLength, api.ErrLength},

	{at(seen, 4), api.ErrRange, api.ErrRange},
	{at(seen, -4), api.ErrRange, api.ErrRange},
	{at(in, van, 4), api.ErrRange, api.ErrRange},
	{at(in, 4, van), api.ErrRange, api.ErrRange},
	{at(in, -4, 4), api.ErrRange, api.ErrRange},

	{at(in, rome, bari), api.ErrWrongType, api.ErrWrongType},
	{at(in, van, van), api.ErrWrongType, api.ErrWrongType},
	{at(in, key, rome), api.ErrWrongType, api.ErrWrongType},
	{at(in, van, key), api.ErrWrongType, api.ErrWrongType},
	{at(in, parameter1, parameter1), api.ErrWrongType, api.ErrRange},
	{at(in, parameter0, parameter0), api.ErrWrongType, api.ErrRange},
	{at(road, bari, parameter0), api.ErrWrongType, api.ErrRange},

	{at(in, rome, 4), api.ErrWrongType, api.ErrWrongType},
	{at(in, rome, parameter1), api.ErrWrongType, api.ErrWrongType},
	{at(in, parameter2, -4), api.ErrWrongType, api.ErrRange},
	{at(road, key, -4), api.ErrWrongType, api.ErrWrongType},
	{at(road, 4, key), api.ErrRange, api.ErrRange},
	{at(road, -4, parameter0), api.ErrRange, api.ErrRange},
}

// TestAtomCodes covers the codes of atoms of R3.1 in each list of atoms or literals, each after a valid atom and, if it is invalid, before one with another code.
func TestAtomCodes(t *testing.T) {
	for _, c := range atomCases {
		atoms := []api.Atom{at(road, rome, rome), c.a}
		switch c.schema {
		case api.OK:
		case api.ErrNotFound:
			atoms = append(atoms, at(rain, key))
		default:
			atoms = append(atoms, at(-1))
		}
		var literals []api.Literal
		for i, a := range atoms {
			literals = append(literals, api.Literal{Negated: i%2 == 1, Atom: a})
		}
		checkChanges(t, []change{
			{"pre", func(d *api.Domain) { d.Schemas[drive].Pre = literals }, codeAt(c.schema, 0)},
			{"add", func(d *api.Domain) { d.Schemas[drive].Add = atoms }, codeAt(c.schema, 0)},
			{"del", func(d *api.Domain) { d.Schemas[drive].Del = atoms }, codeAt(c.schema, 0)},
			{"init", func(d *api.Domain) { d.Init = atoms }, codeAt(c.ground, -5)},
			{"goal", func(d *api.Domain) { d.Goal = literals }, codeAt(c.ground, -6)},
		})
	}
}

// TestExportedCodes covers the codes of atoms and lists of types outside of domains, with more parameters than a schema can have, and for domains with numbers that are invalid.
func TestExportedCodes(t *testing.T) {
	many := []int{truck, place, city, -1, city, truck}
	for _, c := range atomCases {
		if got := domain.AtomCode(delivery(), many[:3], c.a); got != c.schema {
			t.Errorf("%v with three parameters: got %d, want %d", c.a, got, c.schema)
		}
		if got := domain.AtomCode(delivery(), nil, c.a); got != c.ground {
			t.Errorf("%v without parameters: got %d, want %d", c.a, got, c.ground)
		}
	}
	for a, want := range map[int]int{-4: api.ErrWrongType, -5: api.OK, -6: api.ErrWrongType, -7: api.ErrRange} {
		if got := domain.AtomCode(delivery(), many, at(road, rome, a)); got != want {
			t.Errorf("argument %d of six parameters: got %d, want %d", a, got, want)
		}
	}
	for _, far := range farNumbers {
		d := delivery()
		d.Objects[key].Type, d.Predicates[in].Types[0] = far, far
		if got := domain.AtomCode(d, []int{far}, at(in, parameter0, rome)); got != api.ErrWrongType {
			t.Errorf("type %d: got %d", far, got)
		}
		if got := domain.AtomCode(d, nil, at(seen, key)); got != api.ErrWrongType {
			t.Errorf("object of the type %d: got %d", far, got)
		}
		if got := domain.TypesCode(d, []int{-1, city, far}); got != api.ErrRange {
			t.Errorf("list with %d: got %d", far, got)
		}
	}
	for n, want := range []int{api.OK, api.OK, api.OK, api.OK, api.ErrTooMany, api.ErrTooMany} {
		if got := domain.TypesCode(delivery(), repeat(truck, n)); got != want {
			t.Errorf("list of %d types: got %d, want %d", n, got, want)
		}
	}
}

// TestArguments covers arguments of each type where each type is required: x0 to x4 are objects of the types object, a, b, c and d, of which b is below a, and c below b.
func TestArguments(t *testing.T) {
	types := []api.Type{ty("a", -1), ty("b", 0), ty("c", 1), ty("d", -1)}
	// fits tells, for the types from -1 on, whether the first one has the second one as a supertype.
	fits := [][]bool{
		{true, false, false, false, false},
		{true, true, false, false, false},
		{true, true, true, false, false},
		{true, true, true, true, false},
		{true, false, false, false, true},
	}
	objects := []api.Object{ob("x0", -1), ob("x1", 0), ob("x2", 1), ob("x3", 2), ob("x4", 3)}
	for required := -1; required < 4; required++ {
		for of := -1; of < 4; of++ {
			d := api.Domain{Types: types, Objects: objects, Predicates: []api.Predicate{pr("p", required)}}
			byObject, byParameter := []api.Atom{at(0, of+1)}, []api.Atom{at(0, parameter0)}
			code := api.OK
			if !fits[of+1][required+1] {
				code = api.ErrWrongType
			}
			wantSchema, wantInit := codeAt(code, 0), codeAt(code, -5)
			d.Init = byObject
			if got := domain.Validate(d); got != wantInit {
				t.Errorf("object of type %d for type %d: got %v, want %v", of, required, got, wantInit)
			}
			d.Init = byParameter
			if got := domain.Validate(d); got != fault(api.ErrRange, -5) {
				t.Errorf("parameter in Init for type %d: got %v", required, got)
			}
			d.Init, d.Goal = nil, []api.Literal{neg(byParameter[0])}
			if got := domain.Validate(d); got != fault(api.ErrRange, -6) {
				t.Errorf("parameter in Goal for type %d: got %v", required, got)
			}
			d.Goal = nil
			for _, l := range [][]api.Atom{byObject, byParameter} {
				d.Schemas = []api.Schema{{Name: "s", Types: []int{of}, Del: l}}
				if got := domain.Validate(d); got != wantSchema {
					t.Errorf("%v of type %d for type %d: got %v, want %v", l, of, required, got, wantSchema)
				}
			}
		}
	}
}

// TestNames covers the names of predicates and schemas, which are those of package types but for the predicate not.
func TestNames(t *testing.T) {
	cases := map[string]bool{
		"a": true, "z9-": true, "abcdefghijkl": true, "no": true, "nott": true, "object": true, "domain": true,
		"": false, "abcdefghijklm": false, "-a": false, "0": false, "A": false, "aB": false, "a_b": false,
		"?0": false, "a b": false, "a.": false, "\u00e4": false, "a\x00": false, "a\xff": false, strings.Repeat("a", 100000): false,
	}
	for s, is := range cases {
		var predicate, schema api.Fault
		if !is {
			predicate, schema = fault(api.ErrName, -3), fault(api.ErrName, 0)
		}
		if got := domain.Validate(api.Domain{Predicates: []api.Predicate{pr(s)}}); got != predicate {
			t.Errorf("predicate %q: got %v, want %v", s, got, predicate)
		}
		if got := domain.Validate(api.Domain{Schemas: []api.Schema{{Name: s}}}); got != schema {
			t.Errorf("schema %q: got %v, want %v", s, got, schema)
		}
	}
}
