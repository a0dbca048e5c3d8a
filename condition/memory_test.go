package condition_test

import (
	"reflect"
	"testing"
	"unsafe"

	"helmsman/api"
	"helmsman/condition"
)

// spared returns a copy of a value that shares no memory with it, in which each slice has spare capacity for one element that is not zero.
func spared(v reflect.Value) reflect.Value {
	c := reflect.New(v.Type()).Elem()
	switch v.Kind() {
	case reflect.Struct:
		for i := range v.NumField() {
			c.Field(i).Set(spared(v.Field(i)))
		}
	case reflect.Slice:
		l := reflect.MakeSlice(v.Type(), v.Len()+1, v.Len()+1)
		for i := range v.Len() {
			l.Index(i).Set(spared(v.Index(i)))
		}
		switch last := l.Index(v.Len()); {
		case last.Kind() == reflect.Int:
			last.SetInt(77)
		case v.Len() > 0:
			last.Set(spared(v.Index(0)))
		}
		c.Set(l.Slice(0, v.Len()))
	default:
		c.Set(v)
	}
	return c
}

func spare[E any](e E) E { return spared(reflect.ValueOf(e)).Interface().(E) }

// memory returns a list of everything that a value refers to, with the spare capacity of its slices.
func memory(v reflect.Value) []any {
	var l []any
	switch v.Kind() {
	case reflect.Struct:
		for i := range v.NumField() {
			l = append(l, memory(v.Field(i))...)
		}
	case reflect.Slice:
		l = append(l, v.Len())
		for i := range v.Cap() {
			l = append(l, memory(v.Slice(0, v.Cap()).Index(i))...)
		}
	default:
		l = append(l, v.Interface())
	}
	return l
}

// block is the memory from one address to another.
type block struct{ from, to uintptr }

// blocks returns the memory of the slices, with their spare capacity, and of the strings in a value.
func blocks(v reflect.Value) []block {
	var l []block
	switch v.Kind() {
	case reflect.String:
		from := uintptr(unsafe.Pointer(unsafe.StringData(v.String())))
		l = append(l, block{from, from + uintptr(v.Len())})
	case reflect.Struct:
		for i := range v.NumField() {
			l = append(l, blocks(v.Field(i))...)
		}
	case reflect.Slice:
		l = append(l, block{v.Pointer(), v.Pointer() + uintptr(v.Cap())*v.Type().Elem().Size()})
		for i := range v.Len() {
			l = append(l, blocks(v.Index(i))...)
		}
	}
	return l
}

// call is a list of arguments of Eval.
type call struct {
	D     api.Domain
	C     api.Condition
	Atoms []api.Atom
	Args  []int
}

// calls returns calls with valid and with invalid arguments.
func calls() []call {
	var l []call
	for _, c := range truths {
		l = append(l, call{delivery(), with(c.types, c.root), c.atoms, c.args})
	}
	for _, c := range caseLists {
		l = append(l, call{delivery(), with(c.types, c.root), nil, c.args})
	}
	for _, c := range negations {
		l = append(l, call{delivery(), closed(c.b), nil, nil})
	}
	for _, changes := range [][]change{validChanges, orderedChanges} {
		for _, c := range changes {
			d, trip := delivery(), trip()
			c.apply(&d, &trip)
			l = append(l, call{d, trip, []api.Atom{at(in, van, rome), at(rain)}, []int{van, rome}})
		}
	}
	return l
}

// TestMemory covers Z4: arguments and their spare capacity are not modified, and results share no memory with them or with each other.
func TestMemory(t *testing.T) {
	for _, c := range calls() {
		c := spare(c)
		before := memory(reflect.ValueOf(c))
		condition.Validate(c.D, c.C)
		condition.Eval(c.D, c.C, c.Atoms, c.Args)
		values := []reflect.Value{reflect.ValueOf(c)}
		for range 2 {
			negated, _ := condition.Negate(c.D, c.C)
			found, _ := condition.Cases(c.D, c.C, c.Args)
			values = append(values, reflect.ValueOf(negated), reflect.ValueOf(found))
		}
		if after := memory(reflect.ValueOf(c)); !reflect.DeepEqual(after, before) {
			t.Errorf("the arguments are now %v, were %v", after, before)
		}
		for i, a := range values {
			for k := i + 1; k < len(values); k++ {
				checkApart(t, blocks(a), blocks(values[k]))
			}
			if i > 0 {
				all := blocks(a)
				for k := range all {
					checkApart(t, all[k:k+1], all[k+1:])
				}
			}
		}
	}
}

// checkApart checks that no memory of the first list is in the second one.
func checkApart(t *testing.T, first, second []block) {
	t.Helper()
	for _, a := range first {
		for _, b := range second {
			if a.from < b.to && b.from < a.to {
				t.Errorf("%v and %v share memory", a, b)
			}
		}
	}
}
