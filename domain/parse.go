package domain

import (
	"slices"
	"strconv"
	"strings"

	"helmsman/api"
	"helmsman/sexpr"
)

// Parse reads a domain.
func Parse(text string) (api.Domain, api.Fault) {
	nodes, f := sexpr.Read(text)
	if f != (api.Fault{}) {
		return api.Domain{}, f
	}
	r := reader{nodes: nodes}
	d := r.domain(len(nodes) - 1)
	if r.wrong {
		return api.Domain{}, api.Fault{Code: api.ErrSyntax, Index: -8}
	}
	if f := Validate(d); f != (api.Fault{}) {
		return api.Domain{}, f
	}
	return d, api.Fault{}
}

// reader turns the nodes of an expression into a domain. Its methods read the part that a node is the root of. types, objects and predicates are the names declared so far. Once wrong is set, the expression is known not to have the required form, and what is read has no meaning.
type reader struct {
	nodes                      []api.Sexpr
	types, objects, predicates []string
	wrong                      bool
}

// require notes that the expression is wrong unless ok, and returns ok.
func (r *reader) require(ok bool) bool {
	r.wrong = r.wrong || !ok
	return ok
}

// symbol returns a symbol.
func (r *reader) symbol(n int) string {
	s := r.nodes[n].Symbol
	r.require(s != "")
	return s
}

// list returns the elements of a list that follow the symbols with which it has to begin.
func (r *reader) list(n int, heads ...string) []int {
	l := r.nodes[n].Children
	if !r.require(r.nodes[n].Symbol == "" && len(l) >= len(heads)) {
		return nil
	}
	for i, h := range heads {
		r.require(r.nodes[l[i]].Symbol == h)
	}
	return l[len(heads):]
}

// declare returns a name and adds it to those of its kind.
func (r *reader) declare(names *[]string, n int) string {
	name := r.symbol(n)
	*names = append(*names, name)
	return name
}

// declared returns the number of a name among those of its kind.
func (r *reader) declared(names []string, n int) int {
	number := slices.Index(names, r.symbol(n))
	r.require(number >= 0)
	return number
}

func (r *reader) domain(n int) api.Domain {
	l := r.list(n, domainWord)
	if !r.require(len(l) >= 5) {
		return api.Domain{}
	}
	actions, end := l[3:len(l)-2], l[len(l)-2:]
	// One statement a part, as each part can use the names that the parts before it declare.
	var d api.Domain
	d.Types = convert(r.list(l[0], typesWord), r.newType)
	d.Objects = convert(r.list(l[1], objectsWord), r.newObject)
	d.Predicates = convert(r.list(l[2], predicatesWord), r.newPredicate)
	d.Schemas = convert(actions, r.schema)
	d.Init = convert(r.list(end[0], initWord), r.atom)
	d.Goal = convert(r.list(end[1], goalWord), r.literal)
	return d
}

func (r *reader) newType(n int) api.Type {
	l := r.list(n)
	if !r.require(len(l) == 2) {
		return api.Type{}
	}
	// The parent is read first because a type cannot be used in its own declaration.
	parent := r.typeNumber(l[1])
	return api.Type{Name: r.declare(&r.types, l[0]), Parent: parent}
}

func (r *reader) newObject(n int) api.Object {
	l := r.list(n)
	if !r.require(len(l) == 2) {
		return api.Object{}
	}
	return api.Object{Name: r.declare(&r.objects, l[0]), Type: r.typeNumber(l[1])}
}

func (r *reader) newPredicate(n int) api.Predicate {
	l := r.list(n)
	if !r.require(len(l) >= 1) {
		return api.Predicate{}
	}
	return api.Predicate{Name: r.declare(&r.predicates, l[0]), Types: convert(l[1:], r.typeNumber)}
}

func (r *reader) schema(n int) api.Schema {
	l := r.list(n, actionWord)
	if !r.require(len(l) == 7) {
		return api.Schema{}
	}
	return api.Schema{
		Name:      r.symbol(l[0]),
		Types:     convert(r.list(l[1]), r.typeNumber),
		Different: convert(r.list(l[2], differentWord), r.pair),
		Pre:       convert(r.list(l[3], preWord), r.literal),
		Add:       convert(r.list(l[4], addWord), r.atom),
		Del:       convert(r.list(l[5], delWord), r.atom),
		Cost:      r.number(r.symbol(l[6])),
	}
}

func (r *reader) pair(n int) [2]int {
	l := r.list(n)
	if !r.require(len(l) == 2) {
		return [2]int{}
	}
	return [2]int{r.number(r.symbol(l[0])), r.number(r.symbol(l[1]))}
}

func (r *reader) literal(n int) api.Literal {
	l := r.nodes[n].Children
	if len(l) == 2 && r.nodes[l[0]].Symbol == negation {
		return api.Literal{Negated: true, Atom: r.atom(l[1])}
	}
	return api.Literal{Atom: r.atom(n)}
}

func (r *reader) atom(n int) api.Atom {
	l := r.list(n)
	if !r.require(len(l) >= 1) {
		return api.Atom{}
	}
	return api.Atom{Predicate: r.declared(r.predicates, l[0]), Args: convert(l[1:], r.argument)}
}

func (r *reader) argument(n int) int {
	s := r.symbol(n)
	if o := slices.Index(r.objects, s); o >= 0 {
		return o
	}
	digits, ok := strings.CutPrefix(s, parameterMark)
	r.require(ok)
	return parameter(r.number(digits))
}

func (r *reader) typeNumber(n int) int {
	if r.nodes[n].Symbol == rootType {
		return -1
	}
	return r.declared(r.types, n)
}

// number reads a number in decimal notation.
func (r *reader) number(s string) int {
	n, err := strconv.Atoi(s)
	// Atoi also accepts signs and leading zeros.
	r.require(err == nil && 0 <= n && n <= api.MaxNumber && strconv.Itoa(n) == s)
	return n
}
