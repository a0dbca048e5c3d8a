package domain

import (
	"strconv"

	"helmsman/api"
	"helmsman/sexpr"
)

// The words of the text of a domain. The type -1 is denoted by rootType, and a parameter by its number after parameterMark.
const (
	rootType      = "object"
	parameterMark = "?"

	domainWord     = "domain"
	typesWord      = "types"
	objectsWord    = "objects"
	predicatesWord = "predicates"
	actionWord     = "action"
	differentWord  = "different"
	preWord        = "pre"
	addWord        = "add"
	delWord        = "del"
	initWord       = "init"
	goalWord       = "goal"
)

// Print returns the text of a domain.
func Print(d api.Domain) (string, api.Fault) {
	if f := Validate(d); f != (api.Fault{}) {
		return "", f
	}
	w := writer{domain: d}
	w.write()
	text, f := sexpr.Print(w.nodes)
	if f != (api.Fault{}) || len(text) > api.MaxText {
		return "", api.Fault{Code: api.ErrTooLarge, Index: -7}
	}
	return text, api.Fault{}
}

// writer turns a valid domain into the nodes of an expression. Its methods add the nodes of a part and return the last one, its root. Where the parts of a list are written as the arguments of one call, the nodes are in order because Go calls functions from left to right.
type writer struct {
	domain api.Domain
	nodes  []api.Sexpr
}

func (w *writer) add(n api.Sexpr) int {
	w.nodes = append(w.nodes, n)
	return len(w.nodes) - 1
}

func (w *writer) symbol(s string) int { return w.add(api.Sexpr{Symbol: s}) }

func (w *writer) number(n int) int { return w.symbol(strconv.Itoa(n)) }

func (w *writer) list(children ...int) int { return w.add(api.Sexpr{Children: children}) }

// writeList adds a list of the symbol head and the given elements.
func writeList[E any](w *writer, head string, elements []E, write func(E) int) int {
	children := []int{w.symbol(head)}
	return w.list(append(children, convert(elements, write)...)...)
}

// write adds the domain.
func (w *writer) write() int {
	d := w.domain
	children := []int{
		w.symbol(domainWord),
		writeList(w, typesWord, d.Types, func(t api.Type) int {
			return w.list(w.symbol(t.Name), w.typeName(t.Parent))
		}),
		writeList(w, objectsWord, d.Objects, func(o api.Object) int {
			return w.list(w.symbol(o.Name), w.typeName(o.Type))
		}),
		writeList(w, predicatesWord, d.Predicates, func(p api.Predicate) int {
			return writeList(w, p.Name, p.Types, w.typeName)
		}),
	}
	children = append(children, convert(d.Schemas, w.schema)...)
	children = append(children, writeList(w, initWord, d.Init, w.atom))
	children = append(children, writeList(w, goalWord, d.Goal, w.literal))
	return w.list(children...)
}

func (w *writer) schema(s api.Schema) int {
	return w.list(
		w.symbol(actionWord),
		w.symbol(s.Name),
		w.list(convert(s.Types, w.typeName)...),
		writeList(w, differentWord, s.Different, func(pair [2]int) int {
			return w.list(w.number(pair[0]), w.number(pair[1]))
		}),
		writeList(w, preWord, s.Pre, w.literal),
		writeList(w, addWord, s.Add, w.atom),
		writeList(w, delWord, s.Del, w.atom),
		w.number(s.Cost),
	)
}

func (w *writer) literal(l api.Literal) int {
	if l.Negated {
		return w.list(w.symbol(negation), w.atom(l.Atom))
	}
	return w.atom(l.Atom)
}

func (w *writer) atom(a api.Atom) int {
	return writeList(w, w.domain.Predicates[a.Predicate].Name, a.Args, w.argument)
}

func (w *writer) argument(arg int) int {
	if arg >= 0 {
		return w.symbol(w.domain.Objects[arg].Name)
	}
	return w.symbol(parameterMark + strconv.Itoa(parameter(arg)))
}

func (w *writer) typeName(t int) int {
	if t == -1 {
		return w.symbol(rootType)
	}
	return w.symbol(w.domain.Types[t].Name)
}

// convert returns what f makes of the elements of a list, in order.
func convert[A, B any](l []A, f func(A) B) []B {
	var converted []B
	for _, e := range l {
		converted = append(converted, f(e))
	}
	return converted
}
