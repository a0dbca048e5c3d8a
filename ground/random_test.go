package ground_test

import (
	"fmt"
	"math/rand"
	"slices"
	"testing"

	"helmsman/api"
	"helmsman/domain"
	"helmsman/ground"
	"helmsman/strips"
)

// model grounds a domain by the text of the document. Ground literals are texts, and every instance is tried.
type model struct{ d api.Domain }

// belongs reports whether objects have the given types.
func (m model) belongs(objects, types []int) bool {
	for i, o := range objects {
		t := m.d.Objects[o].Type
		for t != -1 && t != types[i] {
			t = m.d.Types[t].Parent
		}
		if t != types[i] {
			return false
		}
	}
	return true
}

// lists returns all lists of objects with the given types.
func (m model) lists(types []int) [][]int {
	l := [][]int{nil}
	for range types {
		var longer [][]int
		for _, first := range l {
			for o := range m.d.Objects {
				longer = append(longer, append(slices.Clip(first), o))
			}
		}
		l = longer
	}
	return slices.DeleteFunc(l, func(objects []int) bool { return !m.belongs(objects, types) })
}

// key returns the text of a literal with objects for its parameters.
func key(negated bool, a api.Atom, objects []int) string {
	var args []int
	for _, arg := range a.Args {
		if arg < 0 {
			arg = objects[-1-arg]
		}
		args = append(args, arg)
	}
	return fmt.Sprint(negated, a.Predicate, args)
}

func keyOf(l api.Literal, objects []int) string { return key(l.Negated, l.Atom, objects) }

// fluent reports whether a predicate is fluent.
func (m model) fluent(predicate int) bool {
	is := func(a api.Atom) bool { return a.Predicate == predicate }
	for _, s := range m.d.Schemas {
		if slices.ContainsFunc(s.Add, is) || slices.ContainsFunc(s.Del, is) {
			return true
		}
	}
	return slices.ContainsFunc(m.d.Goal, func(l api.Literal) bool { return is(l.Atom) })
}

// negative reports whether a predicate occurs negated.
func (m model) negative(predicate int) bool {
	lists := [][]api.Literal{m.d.Goal}
	for _, s := range m.d.Schemas {
		lists = append(lists, s.Pre)
	}
	return slices.ContainsFunc(slices.Concat(lists...), func(l api.Literal) bool { return l.Negated && l.Atom.Predicate == predicate })
}

// world is a set of true atoms, by their texts.
type world map[string]bool

func (m model) initial() world {
	w := world{}
	for _, a := range m.d.Init {
		w[key(false, a, nil)] = true
	}
	return w
}

func (w world) holds(l api.Literal, objects []int) bool {
	return w[key(false, l.Atom, objects)] != l.Negated
}

func (w world) allHold(list []api.Literal, objects []int) bool {
	return !slices.ContainsFunc(list, func(l api.Literal) bool { return !w.holds(l, objects) })
}

// after returns the true atoms after an instance of a schema.
func (w world) after(s api.Schema, objects []int) world {
	next := world{}
	for k := range w {
		if !slices.ContainsFunc(s.Del, func(a api.Atom) bool { return key(false, a, objects) == k }) {
			next[k] = true
		}
	}
	for _, a := range s.Add {
		next[key(false, a, objects)] = true
	}
	return next
}

// differ reports whether the parameters that have to be different are.
func differ(s api.Schema, objects []int) bool {
	return !slices.ContainsFunc(s.Different, func(pair [2]int) bool { return objects[pair[0]] == objects[pair[1]] })
}

// step is an action with what it needs, makes true and makes false, as texts.
type step struct {
	instance                 api.Instance
	cost                     int
	needs, makes, makesFalse map[string]bool
}

// steps returns the actions.
func (m model) steps() []step {
	var l []step
	for i, s := range m.d.Schemas {
		for _, objects := range m.lists(s.Types) {
			a := step{api.Instance{Schema: i, Args: objects}, s.Cost, map[string]bool{}, map[string]bool{}, map[string]bool{}}
			ok := differ(s, objects)
			for _, e := range s.Pre {
				opposite := func(o api.Literal) bool { return keyOf(o, objects) == key(!e.Negated, e.Atom, objects) }
				if slices.ContainsFunc(s.Pre, opposite) {
					ok = false
				}
				if m.fluent(e.Atom.Predicate) {
					a.needs[keyOf(e, objects)] = true
				} else if !m.initial().holds(e, objects) {
					ok = false
				}
			}
			for _, e := range s.Del {
				a.makes[key(true, e, objects)], a.makesFalse[key(false, e, objects)] = true, true
			}
			for _, e := range s.Add {
				delete(a.makes, key(true, e, objects))
				delete(a.makesFalse, key(false, e, objects))
				a.makes[key(false, e, objects)], a.makesFalse[key(true, e, objects)] = true, true
			}
			if ok {
				l = append(l, a)
			}
		}
	}
	return l
}

// atoms returns all ground atoms.
func (m model) atoms() []api.Atom {
	var l []api.Atom
	for i, p := range m.d.Predicates {
		for _, args := range m.lists(p.Types) {
			l = append(l, api.Atom{Predicate: i, Args: args})
		}
	}
	return l
}

// facts returns the facts of the full task.
func (m model) facts() []api.Literal {
	var l []api.Literal
	for _, negated := range []bool{false, true} {
		for _, a := range m.atoms() {
			if m.fluent(a.Predicate) && (!negated || m.negative(a.Predicate)) {
				l = append(l, api.Literal{Negated: negated, Atom: a})
			}
		}
	}
	return l
}

// grounding returns the task with the given facts and actions, and false if there are too many.
func (m model) grounding(facts []api.Literal, steps []step) (api.Grounding, bool) {
	which := func(is func(l api.Literal) bool) []int {
		var l []int
		for i, e := range facts {
			if is(e) {
				l = append(l, i)
			}
		}
		return l
	}
	within := func(set map[string]bool) []int {
		return which(func(l api.Literal) bool { return set[keyOf(l, nil)] })
	}
	goal := map[string]bool{}
	for _, l := range m.d.Goal {
		goal[keyOf(l, nil)] = true
	}
	w := m.initial()
	g := api.Grounding{Facts: facts}
	g.Task.Facts = len(facts)
	g.Task.Init = which(func(l api.Literal) bool { return w.holds(l, nil) })
	g.Task.Goal = within(goal)
	for _, s := range steps {
		g.Instances = append(g.Instances, s.instance)
		g.Task.Operators = append(g.Task.Operators, api.Operator{Pre: within(s.needs), Add: within(s.makes), Del: within(s.makesFalse), Cost: s.cost})
	}
	return g, len(facts) <= api.MaxFacts && len(steps) <= api.MaxOperators
}

// reach returns the facts and actions that remain of the given ones, which are all.
func (m model) reach(facts []api.Literal, steps []step) ([]api.Literal, []step) {
	reached := map[string]bool{}
	w := m.initial()
	for _, a := range m.atoms() {
		for _, l := range []api.Literal{{Atom: a}, {Negated: true, Atom: a}} {
			if w.holds(l, nil) {
				reached[keyOf(l, nil)] = true
			}
		}
	}
	isReached := func(s step) bool {
		for k := range s.needs {
			if !reached[k] {
				return false
			}
		}
		return true
	}
	for count := -1; count < len(reached); {
		count = len(reached)
		for _, s := range steps {
			if isReached(s) {
				for k := range s.makes {
					reached[k] = true
				}
			}
		}
	}
	var kept []api.Literal
	for _, l := range facts {
		inGoal := func(e api.Literal) bool { return keyOf(e, nil) == keyOf(l, nil) }
		if reached[keyOf(l, nil)] || slices.ContainsFunc(m.d.Goal, inGoal) {
			kept = append(kept, l)
		}
	}
	return kept, slices.DeleteFunc(slices.Clone(steps), func(s step) bool { return !isReached(s) })
}

// chooser makes the choices for random domains.
type chooser struct{ *rand.Rand }

// anyType returns a type, which is often the type of all objects.
func (c chooser) anyType(d api.Domain) int { return c.Intn(2)*c.Intn(len(d.Types)+1) - 1 }

func (c chooser) types(d api.Domain, most int) []int {
	var l []int
	for range c.Intn(most + 1) {
		l = append(l, c.anyType(d))
	}
	return l
}

// literals returns up to most literals with parameters of the given types.
func (c chooser) literals(d api.Domain, parameters []int, most int) []api.Literal {
	var l []api.Literal
	for range c.Intn(most + 1) {
		a := api.Atom{Predicate: c.Intn(len(d.Predicates))}
		for range d.Predicates[a.Predicate].Types {
			a.Args = append(a.Args, c.Intn(len(d.Objects)+2*len(parameters))%(len(d.Objects)+len(parameters))-len(parameters))
		}
		if domain.AtomCode(d, parameters, a) == api.OK {
			l = append(l, api.Literal{Negated: c.Intn(3) == 0, Atom: a})
		}
	}
	return l
}

func (c chooser) atoms(d api.Domain, parameters []int, most int) []api.Atom {
	var l []api.Atom
	for _, e := range c.literals(d, parameters, most) {
		l = append(l, e.Atom)
	}
	return l
}

// domain returns a valid domain.
func (c chooser) domain() api.Domain {
	name := func(i int) string { return string(rune('a' + i)) }
	var d api.Domain
	for i := range c.Intn(4) {
		d.Types = append(d.Types, api.Type{Name: name(i), Parent: c.Intn(i+1) - 1})
	}
	for i := range 1 + c.Intn(4) {
		d.Objects = append(d.Objects, api.Object{Name: name(i), Type: c.Intn(len(d.Types)+1) - 1})
	}
	for i := range 1 + c.Intn(5) {
		d.Predicates = append(d.Predicates, api.Predicate{Name: name(i), Types: c.types(d, 1+c.Intn(2))})
	}
	for i := range c.Intn(5) {
		types := c.types(d, 1+c.Intn(3))
		s := api.Schema{Name: name(i), Types: types, Cost: c.Intn(api.MaxCost + 1)}
		if len(types) > 1 && c.Intn(2) == 0 {
			first := c.Intn(len(types) - 1)
			s.Different = [][2]int{{first, first + 1 + c.Intn(len(types)-1-first)}}
		}
		s.Pre, s.Add, s.Del = c.literals(d, types, 3), c.atoms(d, types, 2), c.atoms(d, types, 2)
		d.Schemas = append(d.Schemas, s)
	}
	for _, a := range c.atoms(d, nil, 8) {
		if !slices.ContainsFunc(d.Init, func(b api.Atom) bool { return key(false, a, nil) == key(false, b, nil) }) {
			d.Init = append(d.Init, a)
		}
	}
	d.Goal = c.literals(d, nil, 3)
	return d
}

// TestRandomDomains compares random domains with the model, and the tasks with the domains.
func TestRandomDomains(t *testing.T) {
	c := chooser{rand.New(rand.NewSource(6))}
	small, smaller, applied := 0, 0, 0
	for range 6000 {
		d := c.domain()
		m := model{d}
		if got, f := ground.Atoms(d); f != fault(0, 0) || fmt.Sprint(got) != fmt.Sprint(m.atoms()) {
			t.Fatalf("Atoms(%v): got %v, %v", d, got, f)
		}
		facts, steps := m.facts(), m.steps()
		wantFull, okFull := m.grounding(facts, steps)
		full, f := ground.Full(d)
		compare(t, "Full", d, full, f, wantFull, okFull)
		wantReach, okReach := m.grounding(m.reach(facts, steps))
		reach, f := ground.Reach(d)
		compare(t, "Reach", d, reach, f, wantReach, okReach)
		if okFull {
			small++
			applied += walk(t, c, d, full)
		}
		if okReach {
			applied += walk(t, c, d, reach)
			if !okFull || len(wantReach.Instances) < len(wantFull.Instances) {
				smaller++
			}
		}
		if t.Failed() {
			t.Fatalf("for %+v", d)
		}
	}
	if small < 2000 || smaller < 1000 || applied < 10000 {
		t.Errorf("%d tasks are small enough, %d become smaller, and %d actions are applied", small, smaller, applied)
	}
}

// compare compares a result with the model.
func compare(t *testing.T, name string, d api.Domain, got api.Grounding, f api.Fault, want api.Grounding, ok bool) {
	t.Helper()
	wantFault := fault(0, 0)
	if !ok {
		want, wantFault = api.Grounding{}, fault(api.ErrTooLarge, -8)
	}
	if f != wantFault || fmt.Sprint(got) != fmt.Sprint(want) {
		t.Errorf("%s: got\n%v, %v, want\n%v, %v", name, got, f, want, wantFault)
	}
	checkShape(t, name, got)
}

// walk applies instances of schemas to the initial atoms of a domain, and operators of its task to the initial state. In every state both have to permit the same and lead to the same. It returns the number of steps.
func walk(t *testing.T, c chooser, d api.Domain, g api.Grounding) int {
	t.Helper()
	m := model{d}
	w, state := m.initial(), g.Task.Init
	for count := range 6 {
		var permitted []api.Instance
		for i, s := range d.Schemas {
			for _, objects := range m.lists(s.Types) {
				if differ(s, objects) && w.allHold(s.Pre, objects) {
					permitted = append(permitted, api.Instance{Schema: i, Args: objects})
				}
			}
		}
		applicable, _ := strips.Applicable(g.Task, state)
		var instances []api.Instance
		for _, op := range applicable {
			instances = append(instances, g.Instances[op])
		}
		if fmt.Sprint(instances) != fmt.Sprint(permitted) {
			t.Errorf("in %v: the operators %v are applicable, want %v", w, instances, permitted)
		}
		isMissing := func(fact int) bool { return !slices.Contains(state, fact) }
		if isGoal := !slices.ContainsFunc(g.Task.Goal, isMissing); isGoal != w.allHold(d.Goal, nil) {
			t.Errorf("in %v: the goal is reached: %v", w, isGoal)
		}
		if len(permitted) == 0 || t.Failed() {
			return count
		}
		choice := c.Intn(len(permitted))
		w = w.after(d.Schemas[permitted[choice].Schema], permitted[choice].Args)
		state, _ = strips.Apply(g.Task, state, applicable[choice])
		for i, l := range g.Facts {
			if slices.Contains(state, i) != w.holds(l, nil) {
				t.Errorf("after %v: the state is %v, and true are %v", permitted[choice], state, w)
			}
		}
	}
	return 6
}
