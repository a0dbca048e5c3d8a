package domain_test

import (
	"math/rand"
	"reflect"
	"slices"
	"strings"
	"testing"

	"helmsman/api"
	"helmsman/domain"
	"helmsman/sexpr"
)

// same compares domains; nil and empty lists are the same.
func same(a, b api.Domain) bool { return sameValue(reflect.ValueOf(a), reflect.ValueOf(b)) }

func sameValue(a, b reflect.Value) bool {
	switch a.Kind() {
	case reflect.Struct:
		for i := range a.NumField() {
			if !sameValue(a.Field(i), b.Field(i)) {
				return false
			}
		}
		return true
	case reflect.Slice:
		if a.Len() != b.Len() {
			return false
		}
		for i := range a.Len() {
			if !sameValue(a.Index(i), b.Index(i)) {
				return false
			}
		}
		return true
	}
	return a.Interface() == b.Interface()
}

// isZero reports whether a domain is the zero value, as it has to be together with a fault.
func isZero(d api.Domain) bool { return reflect.DeepEqual(d, api.Domain{}) }

// textCases are domains with their texts.
var textCases = []struct {
	d    api.Domain
	text string
}{
	{api.Domain{}, "(domain (types) (objects) (predicates) (init) (goal))"},
	{delivery(), deliveryText},
	{
		api.Domain{Types: []api.Type{ty("b", -1), ty("a", 0), ty("c", 1), ty("d", 0)}},
		"(domain (types (b object) (a b) (c a) (d b)) (objects) (predicates) (init) (goal))",
	},
	{
		api.Domain{Objects: []api.Object{ob("object", -1), ob("not", -1)}, Predicates: []api.Predicate{pr("object", -1, -1, -1)}, Init: []api.Atom{at(0, 0, 1, 0)}},
		"(domain (types) (objects (object object) (not object)) (predicates (object object object object)) (init (object object not object)) (goal))",
	},
	{
		api.Domain{Schemas: []api.Schema{{Name: "not", Types: []int{-1, -1, -1}, Different: [][2]int{{0, 1}, {0, 2}, {1, 2}, {0, 1}}, Cost: 100}, {Name: "action", Cost: 7}}},
		"(domain (types) (objects) (predicates) (action not (object object object) (different (0 1) (0 2) (1 2) (0 1)) (pre) (add) (del) 100) (action action () (different) (pre) (add) (del) 7) (init) (goal))",
	},
	{
		api.Domain{
			Types: []api.Type{ty("t", -1)}, Objects: []api.Object{ob("t", 0)}, Predicates: []api.Predicate{pr("t", 0), pr("init")},
			Schemas: []api.Schema{{Name: "t", Types: []int{0}, Pre: []api.Literal{neg(at(0, 0)), pos(at(0, -1)), neg(at(1)), pos(at(1))}, Add: []api.Atom{at(1), at(1)}, Del: []api.Atom{at(0, -1)}}},
			Goal:    []api.Literal{neg(at(1)), pos(at(0, 0)), neg(at(1))},
		},
		"(domain (types (t object)) (objects (t t)) (predicates (t t) (init))" +
			" (action t (t) (different) (pre (not (t t)) (t ?0) (not (init)) (init)) (add (init) (init)) (del (t ?0)) 0)" +
			" (init) (goal (not (init)) (t t) (not (init))))",
	},
}

// TestTexts covers R3.3 and R3.4 for domains with their texts.
func TestTexts(t *testing.T) {
	for _, c := range textCases {
		if got, f := domain.Print(c.d); got != c.text || f != fault(0, 0) {
			t.Errorf("Print = %q, %v, want %q", got, f, c.text)
		}
		spaced := strings.NewReplacer("(", "\t( ", ")", "\n) ", " ", " \n\t").Replace(c.text)
		dense := strings.NewReplacer(" (", "(", ") ", ")").Replace(c.text)
		for _, text := range []string{c.text, spaced, dense} {
			if got, f := domain.Parse(text); f != fault(0, 0) || !same(got, c.d) {
				t.Errorf("Parse(%q) = %v, %v, want %v", text, got, f, c.d)
			}
		}
	}
}

// TestValidDomainsAsTexts covers that the valid domains of the tests of Validate can be printed and read again.
func TestValidDomainsAsTexts(t *testing.T) {
	for _, c := range validChanges {
		d := c.of(delivery())
		text, f := domain.Print(d)
		if f != fault(0, 0) {
			if f != fault(api.ErrTooLarge, -7) || c.name != "as many atoms as permitted" {
				t.Errorf("%s: Print = %q, %v", c.name, text, f)
			}
			continue
		}
		if got, f := domain.Parse(text); f != fault(0, 0) || !same(got, d) {
			t.Errorf("%s: Parse(%q) = %v, %v, want %v", c.name, text, got, f, d)
		}
	}
}

// sized returns a valid domain whose expression has n nodes, for n from 118 to 374, with names of the greatest length.
func sized(n int) api.Domain {
	d := api.Domain{Predicates: []api.Predicate{pr("abcdefghijkl")}}
	d.Schemas = names(api.MaxSchemas, func(s string) api.Schema { return api.Schema{Name: "abcdefghij" + s, Cost: api.MaxCost} })
	if n%2 == 1 {
		d.Schemas[0].Types = []int{-1}
	}
	for i := range (n - 118) / 2 {
		s := &d.Schemas[i%api.MaxSchemas]
		if len(s.Add) < api.MaxLiterals {
			s.Add = append(s.Add, at(0))
		} else {
			s.Del = append(s.Del, at(0))
		}
	}
	return d
}

// TestLargeDomains covers ErrTooLarge at -7 of R3.3 for expressions with more than MaxNodes nodes.
func TestLargeDomains(t *testing.T) {
	for n := 118; n <= 374; n++ {
		d := sized(n)
		text, f := domain.Print(d)
		if n > api.MaxNodes {
			if text != "" || f != fault(api.ErrTooLarge, -7) {
				t.Errorf("%d nodes: Print = %q, %v", n, text, f)
			}
			continue
		}
		l, _ := sexpr.Read(text)
		if f != fault(0, 0) || len(l) != n {
			t.Errorf("%d nodes: Print = %q, %v with %d nodes", n, text, f, len(l))
		}
		if got, f := domain.Parse(text); f != fault(0, 0) || !same(got, d) {
			t.Errorf("%d nodes: Parse(%q) = %v, %v", n, text, got, f)
		}
	}
	d := sized(374)
	d.Predicates = nil
	if text, f := domain.Print(d); text != "" || f != fault(api.ErrNotFound, 0) {
		t.Errorf("a domain that is large and invalid: Print = %q, %v", text, f)
	}
}

// faultTexts are texts with what Parse reports, each the text of the domain of delivery with some replacements.
var faultTexts = []struct {
	want         api.Fault
	replacements []string
}{
	// What is not an expression.
	{fault(api.ErrSyntax, 0), []string{deliveryText, ""}},
	{fault(api.ErrSyntax, 3), []string{deliveryText, "(a !)"}},
	{fault(api.ErrSyntax, len(deliveryText)), []string{deliveryText, deliveryText + ")"}},
	{fault(api.ErrSyntax, 9), []string{"types", "abcdefghijklm"}},
	{fault(api.ErrTooLarge, 12), []string{deliveryText, "((((((((((((a))))))))))))"}},
	{fault(api.ErrTooMany, -1), []string{deliveryText, strings.Repeat(" ", api.MaxText) + deliveryText}},
	{fault(api.ErrTooLarge, -1), []string{"(rain))", "(rain)" + strings.Repeat("(a)", api.MaxNodes/2) + ")"}},

	// Domains of another form.
	{fault(api.ErrSyntax, -8), []string{deliveryText, "domain"}},
	{fault(api.ErrSyntax, -8), []string{deliveryText, "()"}},
	{fault(api.ErrSyntax, -8), []string{deliveryText, "(domain)"}},
	{fault(api.ErrSyntax, -8), []string{deliveryText, "((types) (objects) (predicates) (init) (goal))"}},
	{fault(api.ErrSyntax, -8), []string{deliveryText, "((domain) (types) (objects) (predicates) (init) (goal))"}},
	{fault(api.ErrSyntax, -8), []string{deliveryText, "(domain (types) (objects) (predicates) (init))"}},
	{fault(api.ErrSyntax, -8), []string{deliveryText, "(domain (objects) (types) (predicates) (init) (goal))"}},
	{fault(api.ErrSyntax, -8), []string{deliveryText, "(domain (types) (objects) (predicates) (goal) (init))"}},
	{fault(api.ErrSyntax, -8), []string{deliveryText, "(domain (types) (objects) (predicates) (init) (goal) (goal))"}},
	{fault(api.ErrSyntax, -8), []string{deliveryText, "(domain types objects predicates init goal)"}},
	{fault(api.ErrSyntax, -8), []string{deliveryText, "(domain (types) (objects) (predicates) () ())"}},
	{fault(api.ErrSyntax, -8), []string{"(domain", "(problem"}},
	{fault(api.ErrSyntax, -8), []string{"(init", "a (init"}},

	// Declarations.
	{fault(api.ErrSyntax, -8), []string{"(truck object))", "truck)"}},
	{fault(api.ErrSyntax, -8), []string{"(truck object))", "())"}},
	{fault(api.ErrSyntax, -8), []string{"(truck object))", "(truck))"}},
	{fault(api.ErrSyntax, -8), []string{"(truck object))", "(truck object object))"}},
	{fault(api.ErrSyntax, -8), []string{"(truck object))", "((truck) object))"}},
	{fault(api.ErrSyntax, -8), []string{"(truck object))", "(truck (object)))"}},
	{fault(api.ErrSyntax, -8), []string{"(truck object))", "(truck ()))"}},
	{fault(api.ErrSyntax, -8), []string{"(truck object))", "(() object))"}},
	{fault(api.ErrSyntax, -8), []string{"(key object)", "key"}},
	{fault(api.ErrSyntax, -8), []string{"(key object)", "()"}},
	{fault(api.ErrSyntax, -8), []string{"(key object)", "(key)"}},
	{fault(api.ErrSyntax, -8), []string{"(key object)", "(key object object)"}},
	{fault(api.ErrSyntax, -8), []string{"(key object)", "((key) object)"}},
	{fault(api.ErrSyntax, -8), []string{"(key object)", "(key (object))"}},
	{fault(api.ErrSyntax, -8), []string{"(rain))", "())"} /* the predicate and its use */},
	{fault(api.ErrSyntax, -8), []string{"(seen object)", "seen"}},
	{fault(api.ErrSyntax, -8), []string{"(seen object)", "((seen) object)"}},
	{fault(api.ErrSyntax, -8), []string{"(seen object)", "(seen (object))"}},

	// Names that are not declared, or only later.
	{fault(api.ErrSyntax, -8), []string{"(city place)", "(city plac)"}},
	{fault(api.ErrSyntax, -8), []string{"(city place)", "(city city)"}},
	{fault(api.ErrSyntax, -8), []string{"(city place)", "(city truck)"}},
	{fault(api.ErrSyntax, -8), []string{"(key object)", "(key rome)"}},
	{fault(api.ErrSyntax, -8), []string{"(seen object)", "(seen key)"}},
	{fault(api.ErrSyntax, -8), []string{"(truck place city)", "(truck place rome)"}},
	{fault(api.ErrSyntax, -8), []string{"(road rome bari)", "(drive rome bari)"}},
	{fault(api.ErrSyntax, -8), []string{"(road rome bari)", "(road rome city)"}},
	{fault(api.ErrSyntax, -8), []string{"(road rome bari)", "(road rome object)"}},
	{fault(api.ErrSyntax, -8), []string{"(road rome bari)", "(road rome Bari)"}},
	{fault(api.ErrSyntax, -8), []string{"(road rome bari)", "(road rome 1)"}},
	{fault(api.ErrSyntax, -8), []string{"(road rome bari)", "(road rome -1)"}},

	// Actions.
	{fault(api.ErrSyntax, -8), []string{"(action halt", "(act halt"}},
	{fault(api.ErrSyntax, -8), []string{"(action halt", "(action"}},
	{fault(api.ErrSyntax, -8), []string{"(action halt", "(action (halt)"}},
	{fault(api.ErrSyntax, -8), []string{"(action halt", "(halt"}},
	{fault(api.ErrSyntax, -8), []string{"(object) (different) ", "(different) (object) "}},
	{fault(api.ErrSyntax, -8), []string{"(object) (different) ", "object (different) "}},
	{fault(api.ErrSyntax, -8), []string{"(object) (different) ", "((object)) (different) "}},
	{fault(api.ErrSyntax, -8), []string{"(object) (different) ", "(object) () "}},
	{fault(api.ErrSyntax, -8), []string{"(object) (different) ", "(object) different "}},
	{fault(api.ErrSyntax, -8), []string{"(object) (different) ", "(object) "}},
	{fault(api.ErrSyntax, -8), []string{"(1 2)", "1 2"}},
	{fault(api.ErrSyntax, -8), []string{"(1 2)", "(1)"}},
	{fault(api.ErrSyntax, -8), []string{"(1 2)", "()"}},
	{fault(api.ErrSyntax, -8), []string{"(1 2)", "(0 1 2)"}},
	{fault(api.ErrSyntax, -8), []string{"(1 2)", "(?1 ?2)"}},
	{fault(api.ErrSyntax, -8), []string{"(1 2)", "(1 (2))"}},
	{fault(api.ErrSyntax, -8), []string{"(pre) (add", "(add) (add"}},
	{fault(api.ErrSyntax, -8), []string{"(pre) (add", "(pre a) (add"}},
	{fault(api.ErrSyntax, -8), []string{"(pre) (add", "(pre ()) (add"}},
	{fault(api.ErrSyntax, -8), []string{"(pre) (add", "(pre) (pre) (add"}},
	{fault(api.ErrSyntax, -8), []string{"(del) 0", "(del)"}},
	{fault(api.ErrSyntax, -8), []string{"(del) 0", "0 (del)"}},
	{fault(api.ErrSyntax, -8), []string{"(del) 0", "(del) (0)"}},
	{fault(api.ErrSyntax, -8), []string{"(del) 0", "(del) ()"}},
	{fault(api.ErrSyntax, -8), []string{"(del) 0", "(del) 0 0"}},
	{fault(api.ErrSyntax, -8), []string{"(del) 0", "(del) halt"}},

	// Atoms and literals.
	{fault(api.ErrSyntax, -8), []string{"(seen ?2)", "seen"}},
	{fault(api.ErrSyntax, -8), []string{"(seen ?2)", "()"}},
	{fault(api.ErrSyntax, -8), []string{"(seen ?2)", "((seen) ?2)"}},
	{fault(api.ErrSyntax, -8), []string{"(seen ?2)", "((seen ?2))"}},
	{fault(api.ErrSyntax, -8), []string{"(seen ?2)", "(seen (rain))"}},
	{fault(api.ErrSyntax, -8), []string{"(seen ?2)", "(seen ())"}},
	{fault(api.ErrSyntax, -8), []string{"(seen ?2)", "(not (seen ?2))"}},
	{fault(api.ErrSyntax, -8), []string{"(in van bari)", "(not (rain))"}},
	{fault(api.ErrSyntax, -8), []string{"(not (seen key))", "(not seen)"}},
	{fault(api.ErrSyntax, -8), []string{"(not (seen key))", "(not rome)"}},
	{fault(api.ErrSyntax, -8), []string{"(not (seen key))", "(not)"}},
	{fault(api.ErrSyntax, -8), []string{"(not (seen key))", "(not ())"}},
	{fault(api.ErrSyntax, -8), []string{"(not (seen key))", "not"}},
	{fault(api.ErrSyntax, -8), []string{"(not (seen key))", "(not (seen key) (rain))"}},
	{fault(api.ErrSyntax, -8), []string{"(not (seen key))", "(not (not (seen key)))"}},
	{fault(api.ErrSyntax, -8), []string{"(not (seen key))", "((not) (seen key))"}},
	{fault(api.ErrSyntax, -8), []string{"(not (seen key))", "(no (seen key))"}},

	// A predicate named not can be used where an atom is required, but Validate rejects it.
	{fault(api.ErrName, -3), []string{"(rain))", "(not))", "(not (rain))", "(in ?0 ?1)", "(road rome bari)", "(not)"}},
	{fault(api.ErrName, -3), []string{"(predicates", "(predicates (not object)", "(road rome bari)", "(not rome)", "(not (seen key))", "(not)"}},
	{fault(api.ErrName, -3), []string{"(predicates", "(predicates (not object)", "(not (seen key))", "(not rome bari)"}},
	{fault(api.ErrName, -3), []string{"(predicates", "(predicates (not object)", "(not (seen key))", "(not (not rome))"}},
	{fault(api.ErrSyntax, -8), []string{"(predicates", "(predicates (not object)", "(not (seen key))", "(not rome)"}},
	{fault(api.ErrSyntax, -8), []string{"(predicates", "(predicates (not object)", "(not (seen key))", "(not (not (seen key)))"}},

	// Invalid domains of the right form.
	{fault(api.ErrName, -1), []string{"(truck object))", "(truck object) (object object))"}},
	{fault(api.ErrName, -1), []string{"(truck object))", "(truck object) (Van object))"}},
	{fault(api.ErrName, -1), []string{"(truck object))", "(truck object) (?7 object))", "(key object)", "(key ?7)"}},
	{fault(api.ErrExists, -1), []string{"(truck object))", "(truck object) (city truck))"}},
	{fault(api.ErrTooMany, -1), []string{"(truck object))", "(truck object) (a a-0) (b a) (c a) (d a) (e a) (f a))", "a-0", "place"}},
	{fault(api.ErrName, -2), []string{"(key object)", "(key object) (?x object)", "(road rome bari)", "(seen ?x)"}},
	{fault(api.ErrName, -2), []string{"(key object)", "(key object) (?01 object)", "(road rome bari)", "(seen ?01)"}},
	{fault(api.ErrName, -2), []string{"(key object)", "(key object) (?1 object)", "(road rome bari)", "(seen ?1)"}},
	{fault(api.ErrName, -2), []string{"(key object)", "(key object) (7 object)", "(road rome bari)", "(seen 7)"}},
	{fault(api.ErrExists, -2), []string{"(key object)", "(key object) (rome place)"}},
	{fault(api.ErrTooMany, -2), []string{"(key object)", "(a city) (b city) (c city) (d city) (e city) (key object)"}},
	{fault(api.ErrName, -3), []string{"(predicates", "(predicates (A)"}},
	{fault(api.ErrExists, -3), []string{"(seen object)", "(seen object) (in)"}},
	{fault(api.ErrTooMany, -3), []string{"(seen object)", "(seen object object object object)"}},
	{fault(api.ErrName, 0), []string{"drive", "dr/ve"}},
	{fault(api.ErrExists, 1), []string{"halt", "drive"}},
	{fault(api.ErrTooMany, 1), []string{"(object) (different)", "(city city city city) (different)"}},
	{fault(api.ErrRange, 0), []string{"(1 2)", "(2 1)"}},
	{fault(api.ErrRange, 0), []string{"(1 2)", "(1 3)"}},
	{fault(api.ErrRange, 0), []string{"(1 2)", "(0 1000000)"}},
	{fault(api.ErrRange, 1), []string{"(seen key)) (del) 0", "(seen ?1)) (del) 0"}},
	{fault(api.ErrRange, 1), []string{"(seen key)) (del) 0", "(seen ?1000000)) (del) 0"}},
	{fault(api.ErrWrongType, 0), []string{"(in ?0 ?2)", "(in ?2 ?0)"}},
	{fault(api.ErrRange, 1), []string{"(del) 0", "(del) 101"}},
	{fault(api.ErrRange, 1), []string{"(del) 0", "(del) 1000000"}},
	{fault(api.ErrRange, -5), []string{"(road rome bari)", "(seen ?7)"}},
	{fault(api.ErrRange, -5), []string{"(road rome bari)", "(seen ?0)"}},
	{fault(api.ErrLength, -5), []string{"(road rome bari)", "(road rome)"}},
	{fault(api.ErrExists, -5), []string{"(road rome bari)", "(road bari rome)"}},
	{fault(api.ErrRange, -6), []string{"(not (seen key))", "(not (seen ?7))"}},
	{fault(api.ErrWrongType, -6), []string{"(in van rome)", "(in rome van)"}},

	// The form comes before everything else that is invalid.
	{fault(api.ErrSyntax, -8), []string{"(place object)", "(place object) (place object)", "(in van rome)", "(in van none)"}},
	{fault(api.ErrSyntax, -8), []string{"(place object)", "(Place object)", "(del) 0", "(del) 00"}},
	{fault(api.ErrSyntax, -8), []string{"(place object)", "(object object)"}},
}

// replaced returns the text of the domain of delivery with replacements, each at the first occurrence.
func replaced(t *testing.T, replacements []string) string {
	t.Helper()
	text := deliveryText
	for i := 0; i < len(replacements); i += 2 {
		if !strings.Contains(text, replacements[i]) {
			t.Errorf("%q does not occur in %q", replacements[i], text)
		}
		text = strings.Replace(text, replacements[i], replacements[i+1], 1)
	}
	return text
}

// TestParseFaults covers the errors of R3.4.
func TestParseFaults(t *testing.T) {
	for _, c := range faultTexts {
		text := replaced(t, c.replacements)
		if got, f := domain.Parse(text); f != c.want || !isZero(got) {
			t.Errorf("Parse(%q) = %v, %v, want %v", text, got, f, c.want)
		}
	}
}

// notNumbers are symbols that do not denote a number.
var notNumbers = []string{
	"00", "01", "007", "0000000", "000000000001", "-0", "-1", "+0", "+1", "1.", "1.0", "0x1", "1e0", "1_0", "a", "1a", "?", "-", "+",
	"1000001", "0100000", "9999999", "99999999999", "999999999999",
}

// TestNumbers covers numbers in texts: in decimal notation, up to MaxNumber.
func TestNumbers(t *testing.T) {
	for _, s := range notNumbers {
		for _, replacements := range [][]string{
			{"(del) 0", "(del) " + s},
			{"(1 2)", "(" + s + " 2)"},
			{"(1 2)", "(1 " + s + ")"},
			{"(seen ?2)", "(seen ?" + s + ")"},
			{"(seen ?2)", "(seen " + s + ")"},
		} {
			text := replaced(t, replacements)
			want := fault(api.ErrSyntax, -8)
			if len(s) == api.MaxName && strings.Contains(text, "?"+s) {
				want.Index = strings.Index(text, "?"+s)
			}
			if got, f := domain.Parse(text); f != want || !isZero(got) {
				t.Errorf("Parse(%q) = %v, %v, want %v", text, got, f, want)
			}
		}
	}
	for cost, s := range map[int]string{0: "0", 1: "1", 9: "9", 10: "10", 99: "99", 100: "100"} {
		got, f := domain.Parse(replaced(t, []string{"(del) 0", "(del) " + s}))
		if f != fault(0, 0) || got.Schemas[halt].Cost != cost {
			t.Errorf("the cost %q is read as %v, %v", s, got.Schemas, f)
		}
	}
}

// TestChangedTexts changes each node of a text in several ways: whatever can be read is printed as the same text.
func TestChangedTexts(t *testing.T) {
	read := 0
	for _, c := range textCases {
		text := c.text
		for start := range len(text) {
			end := nodeEnd(text, start)
			if end == start {
				continue
			}
			node := text[start:end]
			for _, other := range []string{"", "()", "(" + node + ")", node + " " + node, "0", "?0", "not", "object", "rome", "city", "rain", "init", "(rain)", "(not (rain))", "(key object)"} {
				canonical := canonicalText(text[:start] + other + text[end:])
				d, f := domain.Parse(canonical)
				if f != fault(0, 0) {
					if !isZero(d) {
						t.Errorf("Parse(%q) = %v, %v", canonical, d, f)
					}
					continue
				}
				read++
				if got, f := domain.Print(d); got != canonical || f != fault(0, 0) {
					t.Errorf("Parse(%q) = %v, printed as %q, %v", canonical, d, got, f)
				}
			}
		}
	}
	if read < 200 {
		t.Errorf("only %d texts could be read", read)
	}
}

// nodeEnd returns the end of the symbol or list that begins at start, or start if none does.
func nodeEnd(text string, start int) int {
	if start > 0 && text[start-1] != ' ' && text[start-1] != '(' {
		return start
	}
	lists := 0
	for i := start; i < len(text); i++ {
		switch {
		case text[i] == '(':
			lists++
		case text[i] == ')' && lists > 1:
			lists--
		case text[i] == ')' && lists == 1:
			return i + 1
		case lists == 0 && (text[i] == ' ' || text[i] == ')'):
			return i
		}
	}
	return start
}

// canonicalText returns a text as it is printed, if it is that of an expression.
func canonicalText(text string) string {
	l, _ := sexpr.Read(text)
	if printed, f := sexpr.Print(l); f == fault(0, 0) {
		return printed
	}
	return text
}

// chooser makes the choices for random domains.
type chooser struct{ *rand.Rand }

func (c chooser) numbers(n, low, high int) []int {
	var l []int
	for range n {
		l = append(l, low+c.Intn(high-low+1))
	}
	return l
}

// atoms returns at most n ground atoms, or atoms with the given parameters, that are likely to be valid.
func (c chooser) atoms(d api.Domain, parameters, n int) []api.Atom {
	var l []api.Atom
	if len(d.Predicates) == 0 {
		return nil
	}
	for range c.Intn(n + 1) {
		p := c.Intn(len(d.Predicates))
		l = append(l, at(p, c.numbers(len(d.Predicates[p].Types), -parameters, len(d.Objects)-1)...))
	}
	return l
}

func (c chooser) literals(d api.Domain, parameters, n int) []api.Literal {
	var l []api.Literal
	for _, a := range c.atoms(d, parameters, n) {
		l = append(l, api.Literal{Negated: c.Intn(2) == 0, Atom: a})
	}
	return l
}

// domain returns a domain that is likely to be valid.
func (c chooser) domain() api.Domain {
	var d api.Domain
	for i := range c.Intn(4) {
		d.Types = append(d.Types, ty(name(i), c.Intn(i+1)-1))
	}
	for i := range 1 + c.Intn(4) {
		d.Objects = append(d.Objects, ob(name(i), c.Intn(len(d.Types)+1)-1))
	}
	for i := range c.Intn(4) {
		// Types that are mostly -1 make it likely that the arguments have the right types.
		d.Predicates = append(d.Predicates, pr(name(i), c.numbers(c.Intn(4), -1, min(c.Intn(8), len(d.Types))-1)...))
	}
	for i := range c.Intn(3) {
		n := c.Intn(4)
		s := api.Schema{Name: name(i), Types: c.numbers(n, -1, len(d.Types)-1), Cost: c.Intn(101)}
		for i := range n {
			for j := range i {
				s.Different = append(s.Different, [2]int{j, i})
			}
		}
		s.Pre, s.Add, s.Del = c.literals(d, n, 3), c.atoms(d, n, 2), c.atoms(d, n, 2)
		d.Schemas = append(d.Schemas, s)
	}
	d.Init, d.Goal = c.atoms(d, 0, 3), c.literals(d, 0, 3)
	return d
}

// TestRandomDomains covers that every domain that Validate accepts is read as it has been printed.
func TestRandomDomains(t *testing.T) {
	c := chooser{rand.New(rand.NewSource(3))}
	valid := 0
	for range 20000 {
		d := c.domain()
		f := domain.Validate(d)
		text, g := domain.Print(d)
		if f != g || (text == "") != (g != fault(0, 0)) {
			t.Fatalf("Validate(%v) = %v, Print = %q, %v", d, f, text, g)
		}
		if f != fault(0, 0) {
			continue
		}
		valid++
		if got, f := domain.Parse(text); f != fault(0, 0) || !same(got, d) {
			t.Fatalf("Parse(%q) = %v, %v, want %v", text, got, f, d)
		}
		if canonicalText(text) != text {
			t.Fatalf("Print(%v) = %q", d, text)
		}
	}
	if valid < 1000 {
		t.Errorf("only %d domains are valid", valid)
	}
}

// TestRandomNumbers covers Z1 and Z2 for domains whose numbers are arbitrary: nothing panics, and a fault comes with zero values.
func TestRandomNumbers(t *testing.T) {
	c := chooser{rand.New(rand.NewSource(4))}
	numbers := append(slices.Clone(farNumbers), -4, -3, -2, -1, 0, 1, 2, 3, 4)
	for range 20000 {
		d := delivery()
		for range 1 + c.Intn(2) {
			fields := intFields(reflect.ValueOf(&d).Elem())
			fields[c.Intn(len(fields))].SetInt(int64(numbers[c.Intn(len(numbers))]))
		}
		f := domain.Validate(d)
		if text, g := domain.Print(d); g != f || (text == "") != (f != fault(0, 0)) {
			t.Fatalf("Validate(%v) = %v, Print = %q, %v", d, f, text, g)
		}
	}
}

// intFields returns all numbers in a value.
func intFields(v reflect.Value) []reflect.Value {
	var l []reflect.Value
	switch v.Kind() {
	case reflect.Int:
		return []reflect.Value{v}
	case reflect.Struct:
		for i := range v.NumField() {
			l = append(l, intFields(v.Field(i))...)
		}
	case reflect.Slice, reflect.Array:
		for i := range v.Len() {
			l = append(l, intFields(v.Index(i))...)
		}
	}
	return l
}
