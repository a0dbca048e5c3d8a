package strips_test

import (
	"reflect"
	"slices"
	"testing"

	"helmsman/api"
)

// spared returns a copy of a value that shares no memory with it, in which each slice has spare capacity for one element that is not zero.
func spared(v reflect.Value) reflect.Value {
	c := reflect.New(v.Type()).Elem()
	switch v.Kind() {
	case reflect.Struct:
		for i := range v.NumField() {
			c.Field(i).Set(spared(v.Field(i)))
		}
	case reflect.Slice:
		l := reflect.MakeSlice(v.Type(), v.Len()+1, v.Len()+1)
		for i := range v.Len() {
			l.Index(i).Set(spared(v.Index(i)))
		}
		switch last := l.Index(v.Len()); {
		case last.Kind() == reflect.Int:
			last.SetInt(77)
		case v.Len() > 0:
			last.Set(spared(v.Index(0)))
		}
		c.Set(l.Slice(0, v.Len()))
	default:
		c.Set(v)
	}
	return c
}

// memory returns a list of everything that a value refers to, with the spare capacity of its slices.
func memory(v reflect.Value) []any {
	var l []any
	switch v.Kind() {
	case reflect.Struct:
		for i := range v.NumField() {
			l = append(l, memory(v.Field(i))...)
		}
	case reflect.Slice:
		l = append(l, v.Len())
		for i := range v.Cap() {
			l = append(l, memory(v.Slice(0, v.Cap()).Index(i))...)
		}
	default:
		l = append(l, v.Interface())
	}
	return l
}

// block is the memory from one address to another.
type block struct{ from, to uintptr }

// blocks returns the memory of the slices in a value, with their spare capacity.
func blocks(v reflect.Value) []block {
	var l []block
	switch v.Kind() {
	case reflect.Struct:
		for i := range v.NumField() {
			l = append(l, blocks(v.Field(i))...)
		}
	case reflect.Slice:
		l = append(l, block{v.Pointer(), v.Pointer() + uintptr(v.Cap())*v.Type().Elem().Size()})
		for i := range v.Len() {
			l = append(l, blocks(v.Index(i))...)
		}
	}
	return l
}

// calls returns calls with valid and with invalid arguments.
func calls() []call {
	l := []call{valid(), {Task: wide(), State: ints(0, 23), Plan: ints(0, 5, 39), Op: 0}}
	for _, plan := range [][]int{nil, {drive, back}, {load, load}} {
		l = append(l, call{delivery(), ints(rome, sent), plan, load})
	}
	for _, state := range [][]int{nil, {}, {bari, loaded}, {sent, sent}} {
		l = append(l, call{delivery(), state, nil, drive})
	}
	for _, c := range slices.Concat(validChanges, orderedChanges) {
		task := delivery()
		c.apply(&task)
		l = append(l, call{task, nil, ints(0, 0), 0})
	}
	idle := api.Task{Facts: 3, Operators: []api.Operator{{}}}
	return append(l, call{idle, upTo(3), repeat(0, 9), 0}, call{idle, nil, repeat(0, 9), 0})
}

// TestMemory covers Z4: arguments and their spare capacity are not modified, and results share no memory with them or with each other.
func TestMemory(t *testing.T) {
	for _, c := range calls() {
		c := spared(reflect.ValueOf(c)).Interface().(call)
		before := memory(reflect.ValueOf(c))
		var results []block
		for range 2 {
			for _, f := range functions {
				values, _ := f.run(c)
				for _, v := range values {
					results = append(results, blocks(reflect.ValueOf(v))...)
				}
			}
		}
		if after := memory(reflect.ValueOf(c)); !reflect.DeepEqual(after, before) {
			t.Errorf("the arguments are now %v, were %v", after, before)
		}
		all := append(results, blocks(reflect.ValueOf(c))...)
		for i, a := range results {
			for k, b := range all {
				if i != k && a.from < b.to && b.from < a.to {
					t.Errorf("%+v: results share memory", c)
				}
			}
		}
	}
}
