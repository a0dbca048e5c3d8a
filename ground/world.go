package ground

import (
	"cmp"
	"iter"
	"slices"

	"helmsman/api"
)

// literal is a ground literal: twice the number of its atom, plus 1 if it is negated. So only an atom and its negation have the same half.
type literal int

func (l literal) atom() int { return int(l / 2) }

func (l literal) negated() bool { return l%2 == 1 }

func (l literal) opposite() literal { return l ^ 1 }

// world is a valid domain with its ground atoms.
type world struct {
	domain api.Domain
	// atoms are numbered in their order, and initial tells which of them are in Init.
	atoms   []api.Atom
	initial []bool
	goal    []literal
	// fluent and negative tell which predicates are fluent, and which occur negated.
	fluent, negative [api.MaxPredicates]bool
}

// newWorld returns the world of a domain.
func newWorld(d api.Domain) (*world, api.Fault) {
	atoms, f := Atoms(d)
	if f != (api.Fault{}) {
		return nil, f
	}
	w := &world{domain: d, atoms: atoms, initial: make([]bool, len(atoms))}
	for _, a := range d.Init {
		w.initial[w.positive(a, nil).atom()] = true
	}
	w.goal = w.literals(d.Goal, nil)
	w.markPredicates()
	return w, api.Fault{}
}

// markPredicates finds the predicates that are fluent and those that occur negated.
func (w *world) markPredicates() {
	markNegative := func(list []api.Literal) {
		for _, e := range list {
			if e.Negated {
				w.negative[e.Atom.Predicate] = true
			}
		}
	}
	for _, s := range w.domain.Schemas {
		for _, a := range slices.Concat(s.Add, s.Del) {
			w.fluent[a.Predicate] = true
		}
		markNegative(s.Pre)
	}
	for _, e := range w.domain.Goal {
		w.fluent[e.Atom.Predicate] = true
	}
	markNegative(w.domain.Goal)
}

// positive returns the literal of an atom in which the given objects take the place of the parameters.
func (w *world) positive(a api.Atom, objects []int) literal {
	args := slices.Clone(a.Args)
	for i, arg := range args {
		if arg < 0 {
			args[i] = objects[-1-arg]
		}
	}
	number, _ := slices.BinarySearchFunc(w.atoms, api.Atom{Predicate: a.Predicate, Args: args}, compareAtoms)
	return literal(2 * number)
}

func compareAtoms(a, b api.Atom) int {
	return cmp.Or(cmp.Compare(a.Predicate, b.Predicate), slices.Compare(a.Args, b.Args))
}

// literals returns the literals of a list in which the given objects take the place of the parameters.
func (w *world) literals(list []api.Literal, objects []int) []literal {
	var literals []literal
	for _, e := range list {
		l := w.positive(e.Atom, objects)
		if e.Negated {
			l = l.opposite()
		}
		literals = append(literals, l)
	}
	return literals
}

// literalOf returns the literal with its atom, which is new memory.
func (w *world) literalOf(l literal) api.Literal {
	a := w.atoms[l.atom()]
	return api.Literal{Negated: l.negated(), Atom: api.Atom{Predicate: a.Predicate, Args: slices.Clone(a.Args)}}
}

// isInitial reports whether a literal is true in Init.
func (w *world) isInitial(l literal) bool { return w.initial[l.atom()] != l.negated() }

func (w *world) isFluent(l literal) bool { return w.fluent[w.atoms[l.atom()].Predicate] }

// facts returns the facts of the task with all facts, in their order.
func (w *world) facts() []literal {
	var atoms, negations []literal
	for i, a := range w.atoms {
		if !w.fluent[a.Predicate] {
			continue
		}
		l := literal(2 * i)
		atoms = append(atoms, l)
		if w.negative[a.Predicate] {
			negations = append(negations, l.opposite())
		}
	}
	return slices.Concat(atoms, negations)
}

// action is an action with the literals that it needs and makes true.
type action struct {
	instance         api.Instance
	needs, makesTrue []literal
}

// makesFalse reports whether an action makes a literal false: these are exactly the negations of those that it makes true.
func (a action) makesFalse(l literal) bool { return slices.Contains(a.makesTrue, l.opposite()) }

// actions yields the actions in their order.
func (w *world) actions() iter.Seq[action] {
	return func(yield func(action) bool) {
		for i, s := range w.domain.Schemas {
			for objects := range tuples(w.domain, s.Types) {
				needs, ok := w.needs(s, objects)
				if !ok {
					continue
				}
				if !yield(action{api.Instance{Schema: i, Args: objects}, needs, w.makesTrue(s, objects)}) {
					return
				}
			}
		}
	}
}

// needs returns what the instance of a schema with the given objects needs. It reports false if the instance is not an action.
func (w *world) needs(s api.Schema, objects []int) ([]literal, bool) {
	same := func(pair [2]int) bool { return objects[pair[0]] == objects[pair[1]] }
	if slices.ContainsFunc(s.Different, same) {
		return nil, false
	}
	pre := w.literals(s.Pre, objects)
	var needs []literal
	for _, l := range pre {
		switch {
		case slices.Contains(pre, l.opposite()):
			return nil, false
		case w.isFluent(l):
			needs = append(needs, l)
		case !w.isInitial(l):
			return nil, false
		}
	}
	return needs, true
}

// makesTrue returns the literals that the instance of a schema with the given objects makes true.
func (w *world) makesTrue(s api.Schema, objects []int) []literal {
	var added, deleted []literal
	for _, a := range s.Add {
		added = append(added, w.positive(a, objects))
	}
	for _, a := range s.Del {
		if l := w.positive(a, objects); !slices.Contains(added, l) {
			deleted = append(deleted, l.opposite())
		}
	}
	return slices.Concat(added, deleted)
}

// reach returns the actions that are reached, in their order, and a function that tells which literals are reached.
func (w *world) reach() ([]action, func(l literal) bool) {
	reached := make([]bool, 2*len(w.atoms))
	for i := range reached {
		reached[i] = w.isInitial(literal(i))
	}
	isReached := func(l literal) bool { return reached[l] }
	isMissing := func(l literal) bool { return !reached[l] }
	isUnreached := func(a action) bool { return slices.ContainsFunc(a.needs, isMissing) }

	actions := slices.Collect(w.actions())
	for again := true; again; {
		again = false
		for _, a := range actions {
			if isUnreached(a) || !slices.ContainsFunc(a.makesTrue, isMissing) {
				continue
			}
			again = true
			for _, l := range a.makesTrue {
				reached[l] = true
			}
		}
	}
	return slices.DeleteFunc(actions, isUnreached), isReached
}
