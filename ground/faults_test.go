package ground_test

import (
	"fmt"
	"math"
	"math/rand"
	"reflect"
	"slices"
	"testing"

	"helmsman/api"
	"helmsman/domain"
	"helmsman/ground"
)

// function is an exported function, with the numbers of the atoms, facts and operators in its result.
type function struct {
	name string
	run  func(d api.Domain) (result any, atoms, facts, operators int, f api.Fault)
}

var functions = []function{
	{"Atoms", func(d api.Domain) (any, int, int, int, api.Fault) {
		l, f := ground.Atoms(d)
		return l, len(l), 0, 0, f
	}},
	{"Full", func(d api.Domain) (any, int, int, int, api.Fault) {
		g, f := ground.Full(d)
		return g, 0, len(g.Facts), len(g.Instances), f
	}},
	{"Reach", func(d api.Domain) (any, int, int, int, api.Fault) {
		g, f := ground.Reach(d)
		return g, 0, len(g.Facts), len(g.Instances), f
	}},
}

// isZero reports whether a result is a zero value.
func isZero(result any) bool {
	return slices.Contains([]string{"[]", fmt.Sprint(api.Grounding{})}, fmt.Sprint(result))
}

// change is a way to change the domain of a delivery, and what all functions then report.
type change struct {
	name  string
	apply func(d *api.Domain)
	want  api.Fault
}

// delivery returns a valid domain.
func delivery(t *testing.T) api.Domain {
	return parse(t, "(domain (types (place object) (truck object)) (objects (rome place) (bari place) (van truck))"+
		" (predicates (in truck place) (road place place) (open place))"+
		" (action drive (truck place place) (different (1 2)) (pre (in ?0 ?1) (road ?1 ?2) (not (open ?2))) (add (in ?0 ?2)) (del (in ?0 ?1)) 12)"+
		" (action close (place) (different) (pre) (add) (del (open ?0)) 1)"+
		" (init (in van bari) (road bari rome) (open rome)) (goal (in van rome) (not (open rome))))")
}

// changes lead to errors, in the order in which they are checked. Any of them can be combined.
var changes = []change{
	{"types", func(d *api.Domain) { d.Types[0].Name = "" }, fault(api.ErrName, -1)},
	{"objects", func(d *api.Domain) { d.Objects[1].Name = "van" }, fault(api.ErrExists, -2)},
	{"predicates", func(d *api.Domain) { d.Predicates[1].Types = []int{9} }, fault(api.ErrRange, -3)},
	{"schemas", func(d *api.Domain) { d.Schemas = append(d.Schemas, make([]api.Schema, 7)...) }, fault(api.ErrTooMany, -4)},
	{"schema 0", func(d *api.Domain) { d.Schemas[0].Pre[1].Atom.Predicate = 99 }, fault(api.ErrNotFound, 0)},
	{"schema 1", func(d *api.Domain) { d.Schemas[1].Cost = api.MaxCost + 1 }, fault(api.ErrRange, 1)},
	{"initial atoms", func(d *api.Domain) { d.Init = append(d.Init, d.Init[0]) }, fault(api.ErrExists, -5)},
	{"goal", func(d *api.Domain) { d.Goal[1].Atom.Args = []int{2} }, fault(api.ErrWrongType, -6)},
	{"too many atoms", func(d *api.Domain) {
		d.Objects = append(d.Objects, []api.Object{{Name: "a", Type: -1}, {Name: "b", Type: -1}, {Name: "c", Type: -1}, {Name: "d", Type: -1}, {Name: "e", Type: -1}}...)
		d.Predicates = append(d.Predicates, api.Predicate{Name: "p", Types: []int{-1, -1, -1}})
	}, fault(api.ErrTooLarge, -8)},
}

// TestFaults covers the errors of R6.1, R6.3 and R6.4 and their order: of any two errors, the one that is checked first is reported, and the result is a zero value.
func TestFaults(t *testing.T) {
	for _, f := range functions {
		if _, _, _, _, got := f.run(delivery(t)); got != fault(0, 0) {
			t.Errorf("%s without a change: got %v", f.name, got)
		}
		for i, first := range changes {
			for _, second := range changes[i:] {
				d := delivery(t)
				second.apply(&d)
				if first.name != second.name {
					first.apply(&d)
				}
				if result, _, _, _, got := f.run(d); got != first.want || !isZero(result) {
					t.Errorf("%s, %s and %s: got %v, %v, want %v", f.name, first.name, second.name, result, got, first.want)
				}
			}
		}
	}
}

// limit is the end of the text of a domain with the numbers of the elements that each function returns, or -1 where it reports ErrTooLarge.
type limit struct {
	name, text                     string
	atoms                          int
	fullFacts, fullOperators       int
	reachedFacts, reachedOperators int
}

// TestLimits covers the limits of R6.1, R6.3 and R6.4.
func TestLimits(t *testing.T) {
	// There are 8 objects, of which 7 have the type seven, 5 the type five, and 3 the type three.
	const head = "(domain (types (seven object) (five seven) (three five)) (objects (a object) (b seven) (c seven) (d five) (e five) (f three) (g three) (h three)) "
	const any3 = " object object object"
	for _, c := range []limit{
		{"400 atoms", "(predicates (p seven seven seven) (q object seven) (r)) (init) (goal)", 400, 0, 0, 0, 0},
		{"401 atoms", "(predicates (p seven seven seven) (q object seven) (r) (s)) (init) (goal)", -1, -1, -1, -1, -1},
		{"392 and 9 atoms", "(predicates (p seven seven object) (q object) (r)) (init) (goal)", -1, -1, -1, -1, -1},
		{"as many atoms as there can be", "(predicates (p" + any3 + ") (q" + any3 + ") (r" + any3 + ") (s" + any3 + ") (t" + any3 + ") (u" + any3 + ") (v" + any3 + ") (w" + any3 + ")) (init) (goal)", -1, -1, -1, -1, -1},

		{"24 facts", "(predicates (p object three) (q)) (init) (goal (p a h))", 25, 24, 0, 1, 0},
		{"25 facts", "(predicates (p object three) (q)) (init) (goal (p a h) (q))", 25, -1, -1, 2, 0},
		{"12 facts and their negations", "(predicates (p five) (q seven)) (init) (goal (not (p h)) (not (q h)))", 12, 24, 0, 12, 0},
		{"13 facts and their negations", "(predicates (p five) (q object)) (init) (goal (not (p h)) (not (q h)))", 13, -1, -1, 13, 0},
		{"13 facts and 11 negations", "(predicates (p three) (q object) (r) (s)) (init) (goal (not (p h)) (not (q h)) (s) (r))", 13, 24, 0, 13, 0},
		{"343 facts", "(predicates (p seven seven seven)) (init (p b b b)) (goal (p h h h))", 343, -1, -1, 2, 0},
		{"24 reached facts", "(predicates (p five five)) (action x (five five) (different (0 1)) (pre) (add (p ?0 ?1)) (del) 0) (init (p d d) (p e e)) (goal (p f f) (p g g))", 25, -1, -1, 24, 20},
		{"25 reached facts", "(predicates (p five five)) (action x (five five) (different) (pre) (add (p ?0 ?1)) (del) 0) (init) (goal)", 25, -1, -1, -1, -1},
		{"25 facts that are reached or in the goal", "(predicates (p five five)) (action x (five five) (different (0 1)) (pre) (add (p ?0 ?1)) (del) 0) (init (p d d) (p e e)) (goal (p f f) (p g g) (p h h))", 25, -1, -1, -1, -1},
		{"25 facts with reached negations", "(predicates (p five five)) (init) (goal (not (p f f)))", 25, -1, -1, -1, -1},

		{"40 actions", "(predicates) (action x (object five) (different) (pre) (add) (del) 0) (init) (goal)", 0, 0, 40, 0, 40},
		{"41 actions", "(predicates) (action x (object five) (different) (pre) (add) (del) 0) (action y () (different) (pre) (add) (del) 0) (init) (goal)", 0, -1, -1, -1, -1},
		{"40 of 512 instances", "(predicates (p object) (q object) (r object)) (action x (object object object) (different) (pre (p ?0) (not (q ?1)) (r ?2)) (add) (del) 0) (init (p a) (p h) (q b) (q c) (q d) (q g) (r a) (r b) (r d) (r f) (r h)) (goal)", 24, 0, 40, 0, 40},
		{"45 of 512 instances", "(predicates (p object) (q object) (r object)) (action x (object object object) (different) (pre (p ?0) (not (q ?1)) (r ?2)) (add) (del) 0) (init (p a) (p h) (p b) (q b) (q c) (q d) (q g) (q h) (r a) (r b) (r d) (r f) (r h)) (goal)", 24, -1, -1, -1, -1},
		{"as many actions as there can be", "(predicates) (action a (" + any3 + ") (different) (pre) (add) (del) 0) (action b (" + any3 + ") (different) (pre) (add) (del) 0) (init) (goal)", 0, -1, -1, -1, -1},
		{"40 reached actions", "(predicates (p object) (q)) (action x (object five) (different) (pre) (add (p ?0)) (del) 0) (action y () (different) (pre (q)) (add) (del) 0) (init) (goal (q))", 9, -1, -1, 9, 40},
		{"41 reached actions", "(predicates (p object) (q)) (action x (object five) (different) (pre) (add (p ?0)) (del) 0) (action y () (different) (pre (not (q))) (add) (del) 0) (init) (goal (q))", 9, 10, -1, -1, -1},
	} {
		d := parse(t, head+c.text+")")
		want := [][]int{{c.atoms, 0, 0}, {0, c.fullFacts, c.fullOperators}, {0, c.reachedFacts, c.reachedOperators}}
		for i, f := range functions {
			wantFault := fault(0, 0)
			if slices.Contains(want[i], -1) {
				want[i], wantFault = []int{0, 0, 0}, fault(api.ErrTooLarge, -8)
			}
			result, atoms, facts, operators, got := f.run(d)
			if counts := []int{atoms, facts, operators}; got != wantFault || !slices.Equal(counts, want[i]) || got != fault(0, 0) && !isZero(result) {
				t.Errorf("%s, %s: got %v, %v, want %v, %v", f.name, c.name, counts, got, want[i], wantFault)
			}
		}
	}
}

// numbers returns the addresses of all numbers in a value.
func numbers(v reflect.Value) []*int {
	var l []*int
	switch v.Kind() {
	case reflect.Int:
		l = append(l, v.Addr().Interface().(*int))
	case reflect.Struct:
		for i := range v.NumField() {
			l = append(l, numbers(v.Field(i))...)
		}
	case reflect.Slice, reflect.Array:
		for i := range v.Len() {
			l = append(l, numbers(v.Index(i))...)
		}
	}
	return l
}

// TestArbitraryNumbers covers Z1 and Z2 for domains whose numbers are arbitrary: nothing panics, invalid domains are reported as by domain.Validate, and a fault comes with a zero value.
func TestArbitraryNumbers(t *testing.T) {
	r := rand.New(rand.NewSource(6))
	values := []int{math.MinInt, math.MinInt + 1, -100, -4, -3, -2, -1, 0, 1, 2, 3, 4, 100, math.MaxInt - 1, math.MaxInt}
	invalid := 0
	for range 20000 {
		d := delivery(t)
		all := numbers(reflect.ValueOf(&d).Elem())
		for range 1 + r.Intn(3) {
			*all[r.Intn(len(all))] = values[r.Intn(len(values))]
		}
		want := domain.Validate(d)
		if want != fault(0, 0) {
			invalid++
		}
		// All these domains are small enough, so there are no other errors.
		for _, f := range functions {
			result, _, _, _, got := f.run(d)
			if got != want || got != fault(0, 0) && !isZero(result) {
				t.Fatalf("%s: got %v, %v, want %v for %v", f.name, result, got, want, d)
			}
		}
	}
	if invalid < 5000 || invalid > 19000 {
		t.Errorf("%d domains are invalid", invalid)
	}
}
