package ground_test

import (
	"fmt"
	"slices"
	"strings"
	"testing"

	"helmsman/api"
	"helmsman/domain"
	"helmsman/ground"
	"helmsman/strips"
)

func fault(code, index int) api.Fault { return api.Fault{Code: code, Index: index} }

func at(predicate int, args ...int) api.Atom { return api.Atom{Predicate: predicate, Args: args} }

// parse returns the domain of a text, which has to be valid.
func parse(t *testing.T, text string) api.Domain {
	t.Helper()
	d, f := domain.Parse(text)
	if f != fault(0, 0) {
		t.Fatalf("%s: %v", text, f)
	}
	return d
}

// towns begins the text of a domain: a is a city, b is a port, which is a city too, c is an object only, and there are no ghosts.
const towns = "(domain (types (city object) (port city) (ghost object)) (objects (a city) (b port) (c object)) "

// atomText returns an atom with its names.
func atomText(d api.Domain, a api.Atom) string {
	words := []string{d.Predicates[a.Predicate].Name}
	for _, arg := range a.Args {
		words = append(words, d.Objects[arg].Name)
	}
	return strings.Join(words, " ")
}

// describe returns a grounding in one line: the facts, the initial facts, the goal, and the operators with their costs.
func describe(d api.Domain, g api.Grounding) string {
	var facts []string
	for _, l := range g.Facts {
		text := atomText(d, l.Atom)
		if l.Negated {
			text = "not " + text
		}
		facts = append(facts, text)
	}
	numbers := func(l []int) string { return strings.Trim(fmt.Sprint(l), "[]") }
	parts := []string{strings.Join(facts, ", "), "init " + numbers(g.Task.Init), "goal " + numbers(g.Task.Goal)}
	for i, o := range g.Task.Operators {
		words := []string{d.Schemas[g.Instances[i].Schema].Name}
		for _, arg := range g.Instances[i].Args {
			words = append(words, d.Objects[arg].Name)
		}
		parts = append(parts, fmt.Sprintf("%s: pre %s add %s del %s cost %d", strings.Join(words, " "), numbers(o.Pre), numbers(o.Add), numbers(o.Del), o.Cost))
	}
	return strings.Join(parts, " | ")
}

// checkShape checks what holds for every grounding: it has as many facts and instances as its task has facts and operators, and the task is valid.
func checkShape(t *testing.T, name string, g api.Grounding) {
	t.Helper()
	if len(g.Facts) != g.Task.Facts || len(g.Instances) != len(g.Task.Operators) {
		t.Errorf("%s: %d facts and %d instances for %v", name, len(g.Facts), len(g.Instances), g.Task)
	}
	if f := strips.Validate(g.Task); f != fault(0, 0) {
		t.Errorf("%s: the task is not valid: %v", name, f)
	}
}

// groundCase is the text of a domain after towns, and what Full and Reach return for it. Without reach, both return the same.
type groundCase struct {
	name, text  string
	full, reach string
}

// checkCases compares the results of Full and Reach with those of the cases.
func checkCases(t *testing.T, cases []groundCase) {
	t.Helper()
	for _, c := range cases {
		d := parse(t, towns+c.text+")")
		full, f := ground.Full(d)
		c.check(t, "Full", d, full, f, c.full)
		reach, f := ground.Reach(d)
		if c.reach == "" {
			c.reach = c.full
		}
		c.check(t, "Reach", d, reach, f, c.reach)
	}
}

// check compares a result with what it should be.
func (c groundCase) check(t *testing.T, function string, d api.Domain, got api.Grounding, f api.Fault, want string) {
	t.Helper()
	if text := describe(d, got); f != fault(0, 0) || text != want {
		t.Errorf("%s, %s: got\n%s, %v, want\n%s", function, c.name, text, f, want)
	}
	checkShape(t, c.name, got)
}

// TestAtoms covers R6.1.
func TestAtoms(t *testing.T) {
	cases := []struct{ name, predicates, want string }{
		{"no predicates", "", ""},
		{"no arguments", "(p)", "p"},
		{"all objects", "(p object)", "p a, p b, p c"},
		{"objects of a type and of a type below it", "(p city)", "p a, p b"},
		{"objects of one type", "(p port)", "p b"},
		{"no objects", "(p ghost)", ""},
		{"two arguments", "(p city object)", "p a a, p a b, p a c, p b a, p b b, p b c"},
		{"one argument without objects", "(p object ghost)", ""},
		{"first argument without objects", "(p ghost object)", ""},
		{"three arguments", "(p city port object)", "p a b a, p a b b, p a b c, p b b a, p b b b, p b b c"},
		{"predicates in their order", "(z port) (p ghost) (y) (b city) (a)", "z b, y, b a, b b, a"},
	}
	for _, c := range cases {
		d := parse(t, towns+"(predicates "+c.predicates+") (init) (goal))")
		got, f := ground.Atoms(d)
		var texts []string
		for _, a := range got {
			texts = append(texts, atomText(d, a))
			if code := domain.AtomCode(d, nil, a); code != api.OK {
				t.Errorf("%s: the code of %v is %d", c.name, a, code)
			}
		}
		if text := strings.Join(texts, ", "); f != fault(0, 0) || text != c.want {
			t.Errorf("%s: got %s, %v, want %s", c.name, text, f, c.want)
		}
	}
	if got, f := ground.Atoms(api.Domain{}); f != fault(0, 0) || len(got) > 0 {
		t.Errorf("zero value: got %v, %v", got, f)
	}
}

// TestAtomsOfADomain covers R6.1 for atoms that nothing else in the domain mentions, and the numbers in the result.
func TestAtomsOfADomain(t *testing.T) {
	d := parse(t, towns+"(predicates (p city) (q object) (r)) (action go () (different) (pre (q c)) (add (r)) (del) 0) (init (q c)) (goal (not (r))))")
	got, f := ground.Atoms(d)
	want := []api.Atom{at(0, 0), at(0, 1), at(1, 0), at(1, 1), at(1, 2), at(2)}
	if f != fault(0, 0) || fmt.Sprint(got) != fmt.Sprint(want) {
		t.Errorf("got %v, %v, want %v", got, f, want)
	}
}

// TestNumbers covers R6.3 and R6.4 for the numbers in the result.
func TestNumbers(t *testing.T) {
	d := parse(t, towns+"(predicates (road city city) (at city) (seen object))"+
		" (action rest () (different) (pre) (add (seen c)) (del) 0)"+
		" (action move (city city) (different (0 1)) (pre (at ?0) (road ?0 ?1)) (add (at ?1)) (del (at ?0)) 7)"+
		" (init (at a) (road a b)) (goal (not (at a)) (seen c)))")
	positive := func(a api.Atom) api.Literal { return api.Literal{Atom: a} }
	negative := func(a api.Atom) api.Literal { return api.Literal{Negated: true, Atom: a} }
	full := api.Grounding{
		Task: api.Task{Facts: 7, Init: []int{0, 6}, Goal: []int{4, 5}, Operators: []api.Operator{
			{Add: []int{4}},
			{Pre: []int{0}, Add: []int{1, 5}, Del: []int{0, 6}, Cost: 7},
		}},
		Facts: []api.Literal{
			positive(at(1, 0)), positive(at(1, 1)), positive(at(2, 0)), positive(at(2, 1)), positive(at(2, 2)),
			negative(at(1, 0)), negative(at(1, 1)),
		},
		Instances: []api.Instance{{Schema: 0}, {Schema: 1, Args: []int{0, 1}}},
	}
	if got, f := ground.Full(d); f != fault(0, 0) || fmt.Sprint(got) != fmt.Sprint(full) {
		t.Errorf("Full: got\n%v, %v, want\n%v", got, f, full)
	}
	reach := api.Grounding{
		Task: api.Task{Facts: 5, Init: []int{0, 4}, Goal: []int{2, 3}, Operators: []api.Operator{
			{Add: []int{2}},
			{Pre: []int{0}, Add: []int{1, 3}, Del: []int{0, 4}, Cost: 7},
		}},
		Facts:     []api.Literal{full.Facts[0], full.Facts[1], full.Facts[4], full.Facts[5], full.Facts[6]},
		Instances: full.Instances,
	}
	if got, f := ground.Reach(d); f != fault(0, 0) || fmt.Sprint(got) != fmt.Sprint(reach) {
		t.Errorf("Reach: got\n%v, %v, want\n%v", got, f, reach)
	}
}

// TestFluents covers the predicates of R6.2 and the facts of R6.3.
func TestFluents(t *testing.T) {
	checkCases(t, []groundCase{
		{"no predicates",
			"(predicates) (init) (goal)",
			" | init  | goal ", ""},
		{"predicate that is added",
			"(predicates (p) (q)) (action go () (different) (pre) (add (q)) (del) 0) (init (p)) (goal)",
			"q | init  | goal  | go: pre  add 0 del  cost 0", ""},
		{"predicate that is deleted",
			"(predicates (p) (q)) (action go () (different) (pre) (add) (del (p)) 0) (init (p) (q)) (goal)",
			"p | init 0 | goal  | go: pre  add  del 0 cost 0", ""},
		{"predicate of the goal",
			"(predicates (p) (q)) (init (p)) (goal (q))",
			"q | init  | goal 0", ""},
		{"predicate of the goal that is true",
			"(predicates (p) (q)) (init (p)) (goal (p))",
			"p | init 0 | goal 0", ""},
		{"negated predicate of the goal",
			"(predicates (p) (q)) (init (p)) (goal (not (q)))",
			"q, not q | init 1 | goal 1",
			"not q | init 0 | goal 0"},
		{"predicate of preconditions only",
			"(predicates (p) (q)) (action go () (different) (pre (p) (not (q))) (add) (del) 1) (init (p)) (goal)",
			" | init  | goal  | go: pre  add  del  cost 1", ""},
		{"predicate of a schema without instances",
			"(predicates (p object) (q) (r)) (action go (ghost) (different) (pre (not (p b))) (add (p a)) (del (q)) 0) (init (r)) (goal)",
			"p a, p b, p c, q, not p a, not p b, not p c | init 4 5 6 | goal ",
			"not p a, not p b, not p c | init 0 1 2 | goal "},
		{"predicate of a schema whose instances are no actions",
			"(predicates (p) (q)) (action go () (different) (pre (q)) (add (p)) (del) 0) (init) (goal)",
			"p | init  | goal ",
			" | init  | goal "},
		{"precondition that negates one atom",
			"(predicates (p city) (q)) (action go () (different) (pre (not (p b))) (add (p b)) (del (q)) 0) (init (p a) (q)) (goal)",
			"p a, p b, q, not p a, not p b | init 0 2 4 | goal  | go: pre 4 add 1 del 2 4 cost 0",
			"p a, p b, q, not p b | init 0 2 3 | goal  | go: pre 3 add 1 del 2 3 cost 0"},
		{"goal that negates one atom",
			"(predicates (p city) (q)) (action go () (different) (pre (p a)) (add (q)) (del) 0) (init (q)) (goal (not (p b)))",
			"p a, p b, q, not p a, not p b | init 2 3 4 | goal 4 | go: pre 0 add 2 del  cost 0",
			"q, not p a, not p b | init 0 1 2 | goal 2"},
		{"negated predicates are in their order after all atoms",
			"(predicates (p) (q) (r) (s)) (action go () (different) (pre (not (s)) (not (r))) (add (s) (r) (q) (p)) (del) 0) (init) (goal (not (p)))",
			"p, q, r, s, not p, not r, not s | init 4 5 6 | goal 4 | go: pre 5 6 add 0 1 2 3 del 4 5 6 cost 0", ""},
	})
}

// TestActions covers the actions of R6.2 and their order.
func TestActions(t *testing.T) {
	checkCases(t, []groundCase{
		{"objects of the types of the parameters",
			"(predicates) (action x (port city object) (different) (pre) (add) (del) 0) (action y () (different) (pre) (add) (del) 100) (action z (ghost) (different) (pre) (add) (del) 0) (init) (goal)",
			" | init  | goal  | x b a a: pre  add  del  cost 0 | x b a b: pre  add  del  cost 0 | x b a c: pre  add  del  cost 0" +
				" | x b b a: pre  add  del  cost 0 | x b b b: pre  add  del  cost 0 | x b b c: pre  add  del  cost 0 | y: pre  add  del  cost 100", ""},
		{"schemas are not ordered by names",
			"(predicates) (action y (city) (different) (pre) (add) (del) 2) (action x (port) (different) (pre) (add) (del) 1) (init) (goal)",
			" | init  | goal  | y a: pre  add  del  cost 2 | y b: pre  add  del  cost 2 | x b: pre  add  del  cost 1", ""},
		{"parameter without objects",
			"(predicates (p)) (action x (city ghost) (different) (pre) (add (p)) (del) 0) (init (p)) (goal)",
			"p | init 0 | goal ", ""},
		{"different parameters",
			"(predicates) (action x (object city) (different (0 1)) (pre) (add) (del) 0) (init) (goal)",
			" | init  | goal  | x a b: pre  add  del  cost 0 | x b a: pre  add  del  cost 0 | x c a: pre  add  del  cost 0 | x c b: pre  add  del  cost 0", ""},
		{"first and last parameter different",
			"(predicates) (action x (city port city) (different (0 2)) (pre) (add) (del) 0) (init) (goal)",
			" | init  | goal  | x a b b: pre  add  del  cost 0 | x b b a: pre  add  del  cost 0", ""},
		{"several pairs of different parameters",
			"(predicates) (action x (object object city) (different (1 2) (0 1) (1 2)) (pre) (add) (del) 0) (init) (goal)",
			" | init  | goal  | x a b a: pre  add  del  cost 0 | x a c a: pre  add  del  cost 0 | x a c b: pre  add  del  cost 0" +
				" | x b a b: pre  add  del  cost 0 | x b c a: pre  add  del  cost 0 | x b c b: pre  add  del  cost 0" +
				" | x c a b: pre  add  del  cost 0 | x c b a: pre  add  del  cost 0", ""},
		{"same parameters are permitted otherwise",
			"(predicates) (action x (city city) (different) (pre) (add) (del) 0) (init) (goal)",
			" | init  | goal  | x a a: pre  add  del  cost 0 | x a b: pre  add  del  cost 0 | x b a: pre  add  del  cost 0 | x b b: pre  add  del  cost 0", ""},
		{"precondition that stays true",
			"(predicates (p object)) (action x (object) (different) (pre (p ?0)) (add) (del) 0) (init (p c) (p a)) (goal)",
			" | init  | goal  | x a: pre  add  del  cost 0 | x c: pre  add  del  cost 0", ""},
		{"negated precondition that stays true",
			"(predicates (p object)) (action x (object) (different) (pre (not (p ?0))) (add) (del) 0) (init (p c) (p a)) (goal)",
			" | init  | goal  | x b: pre  add  del  cost 0", ""},
		{"one of several preconditions stays false",
			"(predicates (p object) (q)) (action x (object) (different) (pre (q) (p ?0) (not (p b)) (p a)) (add (q)) (del) 0) (init (p a) (p c)) (goal)",
			"q | init  | goal  | x a: pre 0 add 0 del  cost 0 | x c: pre 0 add 0 del  cost 0",
			" | init  | goal "},
		{"a literal and its negation",
			"(predicates (p city)) (action x () (different) (pre (p a) (not (p a))) (add (p b)) (del) 0) (init (p a)) (goal)",
			"p a, p b, not p a, not p b | init 0 3 | goal ",
			"p a, not p b | init 0 1 | goal "},
		{"a literal and its negation with the same object",
			"(predicates (p city)) (action x (city city) (different) (pre (not (p ?1)) (p ?0)) (add) (del (p ?0)) 0) (init (p a)) (goal)",
			"p a, p b, not p a, not p b | init 0 3 | goal  | x a b: pre 0 3 add 2 del 0 cost 0 | x b a: pre 1 2 add 3 del 1 cost 0",
			"p a, not p a, not p b | init 0 2 | goal  | x a b: pre 0 2 add 1 del 0 cost 0"},
		{"a parameter that is an object of the precondition",
			"(predicates (p city)) (action x (city) (different) (pre (not (p a)) (p ?0)) (add) (del (p b)) 0) (init (p b)) (goal)",
			"p a, p b, not p a, not p b | init 1 2 | goal  | x b: pre 1 2 add 3 del 1 cost 0",
			"p b, not p a, not p b | init 0 1 | goal  | x b: pre 0 1 add 2 del 0 cost 0"},
		{"actions with the same needs and effects",
			"(predicates (p)) (action x (city) (different) (pre) (add (p)) (del) 0) (action y () (different) (pre) (add (p)) (del) 0) (init) (goal)",
			"p | init  | goal  | x a: pre  add 0 del  cost 0 | x b: pre  add 0 del  cost 0 | y: pre  add 0 del  cost 0", ""},
	})
}

// TestEffects covers what actions need, make true and make false.
func TestEffects(t *testing.T) {
	checkCases(t, []groundCase{
		{"atom that is added and deleted",
			"(predicates (p)) (action x () (different) (pre) (add (p)) (del (p)) 0) (init) (goal)",
			"p | init  | goal  | x: pre  add 0 del  cost 0", ""},
		{"atom that occurs negated and is added and deleted",
			"(predicates (p)) (action x () (different) (pre (not (p))) (add (p)) (del (p)) 0) (init) (goal)",
			"p, not p | init 1 | goal  | x: pre 1 add 0 del 1 cost 0", ""},
		{"atom that is added and deleted with the same objects",
			"(predicates (p city)) (action x (city city) (different) (pre (p ?0)) (add (p ?1)) (del (p ?0)) 3) (init (p b)) (goal (not (p b)))",
			"p a, p b, not p a, not p b | init 1 2 | goal 3" +
				" | x a a: pre 0 add 0 del 2 cost 3 | x a b: pre 0 add 1 2 del 0 3 cost 3 | x b a: pre 1 add 0 3 del 1 2 cost 3 | x b b: pre 1 add 1 del 3 cost 3", ""},
		{"deleted atom that does not occur negated",
			"(predicates (p) (q)) (action x () (different) (pre (p)) (add (q)) (del (p)) 0) (init (p)) (goal (not (q)))",
			"p, q, not q | init 0 2 | goal 2 | x: pre 0 add 1 del 0 2 cost 0", ""},
		{"repeated and unordered literals",
			"(predicates (p object)) (action x (city) (different) (pre (p c) (p ?0) (p a) (p c)) (add (p c) (p a) (p c)) (del (p ?0) (p b) (p b)) 0) (init (p c) (p a)) (goal (p c) (p b) (p c))",
			"p a, p b, p c | init 0 2 | goal 1 2 | x a: pre 0 2 add 0 2 del 1 cost 0 | x b: pre 0 1 2 add 0 2 del 1 cost 0",
			"p a, p b, p c | init 0 2 | goal 1 2 | x a: pre 0 2 add 0 2 del 1 cost 0"},
		{"preconditions that are not fluent are not needed",
			"(predicates (road city city) (on city)) (action x (city city) (different) (pre (road ?0 ?1) (on ?0)) (add (on ?1)) (del) 9) (init (on a) (road a b)) (goal)",
			"on a, on b | init 0 | goal  | x a b: pre 0 add 1 del  cost 9", ""},
		{"negations that are needed, made true and made false",
			"(predicates (p city)) (action x () (different) (pre (not (p a)) (p b)) (add (p a)) (del (p b)) 0) (init (p b)) (goal)",
			"p a, p b, not p a, not p b | init 1 2 | goal  | x: pre 1 2 add 0 3 del 1 2 cost 0", ""},
		{"deleting what is false, and adding what is true",
			"(predicates (p city)) (action x () (different) (pre (p a) (not (p b))) (add (p a)) (del (p b)) 0) (init) (goal)",
			"p a, p b, not p a, not p b | init 2 3 | goal  | x: pre 0 3 add 0 3 del 1 2 cost 0",
			"not p a, not p b | init 0 1 | goal "},
		{"goal with an atom and its negation",
			"(predicates (p) (q)) (init (q)) (goal (not (q)) (p) (q))",
			"p, q, not q | init 1 | goal 0 1 2", ""},
	})
}

// TestReached covers R6.4.
func TestReached(t *testing.T) {
	checkCases(t, []groundCase{
		{"action that needs an atom that is never true",
			"(predicates (p) (q) (r)) (action x () (different) (pre (p)) (add (q)) (del) 0) (action y () (different) (pre) (add (r)) (del (p)) 0) (init) (goal)",
			"p, q, r | init  | goal  | x: pre 0 add 1 del  cost 0 | y: pre  add 2 del 0 cost 0",
			"r | init  | goal  | y: pre  add 0 del  cost 0"},
		{"goal that is not reached",
			"(predicates (p) (q)) (action x () (different) (pre (p)) (add (q)) (del (p)) 0) (init) (goal (q))",
			"p, q | init  | goal 1 | x: pre 0 add 1 del 0 cost 0",
			"q | init  | goal 0"},
		{"literals of the goal that are never true",
			"(predicates (p city)) (init (p a)) (goal (p b) (not (p a)))",
			"p a, p b, not p a, not p b | init 0 3 | goal 1 2", ""},
		{"only the negation in the goal is kept",
			"(predicates (p city)) (init (p a) (p b)) (goal (not (p b)))",
			"p a, p b, not p a, not p b | init 0 1 | goal 3",
			"p a, p b, not p b | init 0 1 | goal 2"},
		{"action that a later one enables",
			"(predicates (p) (q) (r) (s)) (action x () (different) (pre (q) (r)) (add (s)) (del) 1) (action y () (different) (pre (p)) (add (r)) (del (p)) 2) (action z () (different) (pre) (add (q) (p)) (del) 3) (init) (goal)",
			"p, q, r, s | init  | goal  | x: pre 1 2 add 3 del  cost 1 | y: pre 0 add 2 del 0 cost 2 | z: pre  add 0 1 del  cost 3", ""},
		{"actions that enable each other",
			"(predicates (p) (q) (r)) (action x () (different) (pre (p)) (add (q)) (del) 0) (action y () (different) (pre (q)) (add (p)) (del (r)) 0) (init (r)) (goal)",
			"p, q, r | init 2 | goal  | x: pre 0 add 1 del  cost 0 | y: pre 1 add 0 del 2 cost 0",
			"r | init 0 | goal "},
		{"one of two needs is not reached",
			"(predicates (p) (q) (r)) (action x () (different) (pre (p) (q)) (add (r)) (del) 0) (action y () (different) (pre (r)) (add (q)) (del) 0) (init (p)) (goal (p))",
			"p, q, r | init 0 | goal 0 | x: pre 0 1 add 2 del  cost 0 | y: pre 2 add 1 del  cost 0",
			"p | init 0 | goal 0"},
		{"deleted literals remain reached",
			"(predicates (p) (q) (r)) (action x () (different) (pre (p)) (add (q)) (del (p)) 0) (action y () (different) (pre (p) (q)) (add (r)) (del) 0) (init (p)) (goal (r))",
			"p, q, r | init 0 | goal 2 | x: pre 0 add 1 del 0 cost 0 | y: pre 0 1 add 2 del  cost 0", ""},
		{"an atom and its negation are both reached",
			"(predicates (p) (q) (r)) (action x () (different) (pre (not (p))) (add (q)) (del) 0) (action y () (different) (pre (p) (q)) (add (r)) (del) 0) (action z () (different) (pre (p)) (add) (del (p)) 0) (init (p)) (goal)",
			"p, q, r, not p | init 0 | goal  | x: pre 3 add 1 del  cost 0 | y: pre 0 1 add 2 del  cost 0 | z: pre 0 add 3 del 0 cost 0", ""},
		{"a negation that nothing makes true",
			"(predicates (p) (q)) (action x () (different) (pre (not (p))) (add (q)) (del) 0) (action y () (different) (pre) (add (p)) (del (q)) 0) (init (p)) (goal)",
			"p, q, not p | init 0 | goal  | x: pre 2 add 1 del  cost 0 | y: pre  add 0 del 1 2 cost 0",
			"p | init 0 | goal  | y: pre  add 0 del  cost 0"},
		{"a negation that no action makes true as it adds the atom again",
			"(predicates (p) (q)) (action x () (different) (pre) (add (p)) (del (p)) 0) (action y () (different) (pre (not (p))) (add (q)) (del) 0) (init (p)) (goal)",
			"p, q, not p | init 0 | goal  | x: pre  add 0 del 2 cost 0 | y: pre 2 add 1 del  cost 0",
			"p | init 0 | goal  | x: pre  add 0 del  cost 0"},
		{"actions that are not reached leave their places",
			"(predicates (on city) (p city)) (action x (city) (different) (pre (on ?0)) (add (p ?0)) (del (on ?0)) 5) (action y (port) (different) (pre (on ?0)) (add) (del (p ?0)) 6) (init (on b)) (goal)",
			"on a, on b, p a, p b | init 1 | goal  | x a: pre 0 add 2 del 0 cost 5 | x b: pre 1 add 3 del 1 cost 5 | y b: pre 1 add  del 3 cost 6",
			"on b, p b | init 0 | goal  | x b: pre 0 add 1 del 0 cost 5 | y b: pre 0 add  del 1 cost 6"},
	})
}

// TestZeroValue covers the example of R6.3: the task of the empty domain has no facts.
func TestZeroValue(t *testing.T) {
	for _, get := range []func(api.Domain) (api.Grounding, api.Fault){ground.Full, ground.Reach} {
		g, f := get(api.Domain{})
		if f != fault(0, 0) || g.Task.Facts != 0 || len(slices.Concat(g.Task.Init, g.Task.Goal)) > 0 || len(g.Task.Operators)+len(g.Facts)+len(g.Instances) > 0 {
			t.Errorf("got %v, %v", g, f)
		}
	}
}
