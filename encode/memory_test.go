package encode_test

import (
	"fmt"
	"reflect"
	"slices"
	"testing"

	"helmsman/api"
	"helmsman/encode"
)

// spared returns a copy of a value that shares no memory with it, in which each slice has spare capacity for one element that is not zero.
func spared(v reflect.Value) reflect.Value {
	c := reflect.New(v.Type()).Elem()
	switch v.Kind() {
	case reflect.Struct:
		for i := range v.NumField() {
			c.Field(i).Set(spared(v.Field(i)))
		}
	case reflect.Slice:
		l := reflect.MakeSlice(v.Type(), v.Len()+1, v.Len()+1)
		for i := range v.Len() {
			l.Index(i).Set(spared(v.Index(i)))
		}
		switch last := l.Index(v.Len()); {
		case last.Kind() == reflect.Int:
			last.SetInt(77)
		case v.Len() > 0:
			last.Set(spared(v.Index(0)))
		}
		c.Set(l.Slice(0, v.Len()))
	default:
		c.Set(v)
	}
	return c
}

// memory returns a list of everything that a value refers to, with the spare capacity of its slices.
func memory(v reflect.Value) []any {
	var l []any
	switch v.Kind() {
	case reflect.Struct:
		for i := range v.NumField() {
			l = append(l, memory(v.Field(i))...)
		}
	case reflect.Slice:
		l = append(l, v.Len())
		for i := range v.Cap() {
			l = append(l, memory(v.Slice(0, v.Cap()).Index(i))...)
		}
	default:
		l = append(l, v.Interface())
	}
	return l
}

// block is the memory from one address to another.
type block struct{ from, to uintptr }

// blocks returns the memory of the slices in a value, with their spare capacity.
func blocks(v reflect.Value) []block {
	var l []block
	switch v.Kind() {
	case reflect.Struct:
		for i := range v.NumField() {
			l = append(l, blocks(v.Field(i))...)
		}
	case reflect.Slice:
		l = append(l, block{v.Pointer(), v.Pointer() + uintptr(v.Cap())*v.Type().Elem().Size()})
		for i := range v.Len() {
			l = append(l, blocks(v.Index(i))...)
		}
	}
	return l
}

// calls returns calls with valid and with invalid arguments.
func calls() []call {
	eraser := from(with(6, api.Operator{Del: ints(0, 2, 5)}, api.Operator{Pre: ints(2), Add: ints(1, 3), Del: ints(0, 2)}, api.Operator{Add: ints(4)}), 0, 5)
	l := []call{
		valid(),
		{shipping(), nil, shipping().Init},
		{shipping(), places(), ints(aboard)},
		{shipping(), lists(places()[1]), ints(first, sea)},
		{eraser, lists(ints(0, 1), ints(2, 3)), ints(4, 5)},
		{eraser, lists(ints(2, 3), ints(), ints(0, 1)), nil},
		{with(api.MaxFacts, eraser.Operators...), lists(ints(2, 3)), upTo(2)},
		{with(2), lists(ints(0, 1)), ints(0, 1)},
		{},
	}
	for _, change := range changes {
		c := valid()
		change.apply(&c)
		l = append(l, c)
	}
	return l
}

// TestMemory covers Z4 and Z5: arguments and their spare capacity are not modified, results share no memory with them or with each other, and they depend on the arguments only.
func TestMemory(t *testing.T) {
	for _, c := range calls() {
		c := spared(reflect.ValueOf(c)).Interface().(call)
		before := memory(reflect.ValueOf(c))
		var results []block
		for _, f := range functions {
			r1, f1 := f.run(c)
			r2, f2 := f.run(c)
			if f1 != f2 || fmt.Sprint(r1) != fmt.Sprint(r2) {
				t.Errorf("%s: got %v, %v and then %v, %v", f.name, r1, f1, r2, f2)
			}
			for _, r := range slices.Concat(r1, r2) {
				results = append(results, blocks(reflect.ValueOf(r))...)
			}
		}
		if after := memory(reflect.ValueOf(c)); !reflect.DeepEqual(after, before) {
			t.Errorf("the arguments are now %v, were %v", after, before)
		}
		all := append(results, blocks(reflect.ValueOf(c))...)
		for i, a := range results {
			for k, b := range all {
				if i != k && a.from < b.to && b.from < a.to {
					t.Errorf("%+v: results share memory", c)
				}
			}
		}
	}
}

// TestKeptResults covers Z4 for results of earlier calls: they remain as they were when later calls are made.
func TestKeptResults(t *testing.T) {
	type result struct {
		got  []any
		want string
	}
	var results []result
	for range 3 {
		for _, c := range calls() {
			for _, f := range functions {
				l, _ := f.run(c)
				results = append(results, result{l, fmt.Sprint(l)})
			}
		}
	}
	for _, r := range results {
		if after := fmt.Sprint(r.got); after != r.want {
			t.Errorf("the results are now %v, were %v", after, r.want)
		}
	}
}

// TestChangedArguments covers Z4 for arguments that are changed after a call: its results remain as they were.
func TestChangedArguments(t *testing.T) {
	task, groups, s := shipping(), places(), shipping().Init
	classes, _ := encode.Cover(task, groups)
	values, _ := encode.State(task, groups, s)
	m, origins, _ := encode.Multi(task, groups)
	before := fmt.Sprint(classes, values, m, origins)
	for _, l := range append(groups, task.Init, task.Goal, s) {
		clear(l)
	}
	for _, o := range task.Operators {
		clear(o.Pre)
		clear(o.Add)
		clear(o.Del)
	}
	clear(groups)
	clear(task.Operators)
	if after := fmt.Sprint(classes, values, m, origins); after != before {
		t.Errorf("the results are now %v, were %v", after, before)
	}
}
