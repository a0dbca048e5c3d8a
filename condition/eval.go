package condition

import (
	"iter"

	"helmsman/api"
	"helmsman/domain"
	"helmsman/types"
)

// atomCount is the number of the ground atoms of a domain at most, if each of them has MaxParameters arguments.
const atomCount = api.MaxPredicates * api.MaxObjects * api.MaxObjects * api.MaxObjects

// world tells which ground atoms are true, by their numbers.
type world [atomCount]bool

// binding gives the objects that the parameters of a scope stand for. As an array it is copied with each assignment, so that no instance of a quantifier can change that of another.
type binding struct {
	objects [maxScope]int
	count   int
}

// with returns the binding with one more parameter.
func (b binding) with(object int) binding {
	b.objects[b.count] = object
	b.count++
	return b
}

// object returns the object that an argument stands for.
func (b binding) object(arg int) int {
	if arg >= 0 {
		return arg
	}
	return b.objects[-1-arg]
}

// atomNumber returns the number of the ground atom that an atom stands for. Numbers are ordered like the atoms, as atoms with the same predicate have the same number of arguments.
func (b binding) atomNumber(a api.Atom) int {
	number := a.Predicate
	for i := range api.MaxParameters {
		number *= api.MaxObjects
		if i < len(a.Args) {
			number += b.object(a.Args[i])
		}
	}
	return number
}

// tree is a valid condition with the objects of each type, that of type t at 1+t.
type tree struct {
	nodes   []api.ConditionNode
	members [1 + api.MaxTypes][]int
}

func newTree(d api.Domain, c api.Condition) tree {
	t := tree{nodes: c.Nodes}
	for i := range 1 + len(d.Types) {
		t.members[i], _ = types.Members(d.Types, d.Objects, i-1)
	}
	return t
}

func (t *tree) root() int { return len(t.nodes) - 1 }

// parts yields the children of a node with its binding, or, for a quantifier, its child with a binding for each of its objects.
func (t *tree) parts(i int, b binding) iter.Seq2[int, binding] {
	n := t.nodes[i]
	return func(yield func(int, binding) bool) {
		if !isQuantifier(n.Kind) {
			for _, child := range n.Children {
				if !yield(child, b) {
					return
				}
			}
			return
		}
		for _, object := range t.members[1+n.Type] {
			if !yield(n.Children[0], b.with(object)) {
				return
			}
		}
	}
}

// Eval reports whether a condition is true when exactly the given atoms are true.
func Eval(d api.Domain, c api.Condition, atoms []api.Atom, args []int) (bool, api.Fault) {
	if f := Validate(d, c); f != (api.Fault{}) {
		return false, f
	}
	if code := groundCode(d, atoms); code != api.OK {
		return false, api.Fault{Code: code, Index: -11}
	}
	b, code := bind(d, c.Types, args)
	if code != api.OK {
		return false, api.Fault{Code: code, Index: -12}
	}
	var w world
	for _, a := range atoms {
		w[binding{}.atomNumber(a)] = true
	}
	t := newTree(d, c)
	return t.holds(t.root(), b, &w), api.Fault{}
}

// groundCode returns the code of a list of ground atoms.
func groundCode(d api.Domain, atoms []api.Atom) int {
	if len(atoms) > api.MaxGround {
		return api.ErrTooMany
	}
	for _, a := range atoms {
		if code := domain.AtomCode(d, nil, a); code != api.OK {
			return code
		}
	}
	return api.OK
}

// bind returns the binding of parameters of the given types to the objects args, or the code of args if they are invalid.
func bind(d api.Domain, parameters, args []int) (binding, int) {
	if len(args) != len(parameters) {
		return binding{}, api.ErrLength
	}
	var b binding
	for i, arg := range args {
		if arg < 0 || arg >= len(d.Objects) {
			return binding{}, api.ErrRange
		}
		if sub, _ := types.Sub(d.Types, d.Objects[arg].Type, parameters[i]); !sub {
			return binding{}, api.ErrWrongType
		}
		b = b.with(arg)
	}
	return b, api.OK
}

// holds reports whether a node is true.
func (t *tree) holds(i int, b binding, w *world) bool {
	n := t.nodes[i]
	switch n.Kind {
	case api.ConditionTrue:
		return true
	case api.ConditionAtom:
		return w[b.atomNumber(n.Atom)]
	case api.ConditionEqual:
		return b.object(n.Left) == b.object(n.Right)
	case api.ConditionNot:
		return !t.holds(n.Children[0], b, w)
	}
	// One true part decides a disjunction, and one false part a conjunction.
	decisive := n.Kind == api.ConditionOr || n.Kind == api.ConditionExists
	for part, extended := range t.parts(i, b) {
		if t.holds(part, extended, w) == decisive {
			return decisive
		}
	}
	return !decisive
}
