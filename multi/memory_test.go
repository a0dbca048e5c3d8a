package multi_test

import (
	"fmt"
	"reflect"
	"slices"
	"testing"

	"helmsman/api"
	"helmsman/multi"
)

// spared returns a copy of a value that shares no memory with it, in which each slice has spare capacity for one element that is not zero.
func spared(v reflect.Value) reflect.Value {
	c := reflect.New(v.Type()).Elem()
	switch v.Kind() {
	case reflect.Struct:
		for i := range v.NumField() {
			c.Field(i).Set(spared(v.Field(i)))
		}
	case reflect.Slice:
		l := reflect.MakeSlice(v.Type(), v.Len()+1, v.Len()+1)
		for i := range v.Len() {
			l.Index(i).Set(spared(v.Index(i)))
		}
		switch last := l.Index(v.Len()); {
		case last.Kind() == reflect.Int:
			last.SetInt(77)
		case v.Len() > 0:
			last.Set(spared(v.Index(0)))
		}
		c.Set(l.Slice(0, v.Len()))
	default:
		c.Set(v)
	}
	return c
}

// memory returns a list of everything that a value refers to, with the spare capacity of its slices.
func memory(v reflect.Value) []any {
	var l []any
	switch v.Kind() {
	case reflect.Struct:
		for i := range v.NumField() {
			l = append(l, memory(v.Field(i))...)
		}
	case reflect.Slice:
		l = append(l, v.Len())
		for i := range v.Cap() {
			l = append(l, memory(v.Slice(0, v.Cap()).Index(i))...)
		}
	default:
		l = append(l, v.Interface())
	}
	return l
}

// block is the memory from one address to another.
type block struct{ from, to uintptr }

// blocks returns the memory of the slices in a value, with their spare capacity.
func blocks(v reflect.Value) []block {
	var l []block
	switch v.Kind() {
	case reflect.Struct:
		for i := range v.NumField() {
			l = append(l, blocks(v.Field(i))...)
		}
	case reflect.Slice:
		l = append(l, block{v.Pointer(), v.Pointer() + uintptr(v.Cap())*v.Type().Elem().Size()})
		for i := range v.Len() {
			l = append(l, blocks(v.Index(i))...)
		}
	}
	return l
}

// calls returns calls with valid and with invalid arguments.
func calls() []call {
	l := []call{
		valid(),
		{Task: lift(), State: ints(2, open, inside, 0, 5), Op: leave},
		{Task: lift(), State: ints(1, open, 1, 0, 5), Op: pause, Plan: ints(pause, lock)},
		{Task: lift(), State: ints(2, shut, 1, 0, 5), Op: lower, Plan: ints(leave)},
		{Task: lift(), State: ints(0), Op: 9, Plan: ints(9)},
		{Task: counter(), State: ints(0, 5), Op: 1, Plan: count()},
		{Task: idle(3), State: ints(0), Op: 2, Plan: ints(0, 1, 2)},
	}
	for _, c := range slices.Concat(validChanges, orderedChanges) {
		m := lift()
		c.apply(&m)
		l = append(l, call{Task: m, State: slices.Clone(m.Init), Plan: ints(0, 0)})
	}
	return l
}

// TestMemory covers Z4 and Z5: arguments and their spare capacity are not modified, results share no memory with them or with each other, and they depend on the arguments only.
func TestMemory(t *testing.T) {
	for _, c := range calls() {
		c := spared(reflect.ValueOf(c)).Interface().(call)
		before := memory(reflect.ValueOf(c))
		var results []block
		for _, f := range functions {
			r1, f1 := f.run(c)
			r2, f2 := f.run(c)
			if f1 != f2 || fmt.Sprint(r1) != fmt.Sprint(r2) {
				t.Errorf("%s: got %v, %v and then %v, %v", f.name, r1, f1, r2, f2)
			}
			for _, r := range []any{r1, r2} {
				if r != nil {
					results = append(results, blocks(reflect.ValueOf(r))...)
				}
			}
		}
		if after := memory(reflect.ValueOf(c)); !reflect.DeepEqual(after, before) {
			t.Errorf("the arguments are now %v, were %v", after, before)
		}
		all := append(results, blocks(reflect.ValueOf(c))...)
		for i, a := range results {
			for k, b := range all {
				if i != k && a.from < b.to && b.from < a.to {
					t.Errorf("%+v: results share memory", c)
				}
			}
		}
	}
}

// TestKeptResults covers Z4 for results of earlier calls: they remain as they were.
func TestKeptResults(t *testing.T) {
	m := counter()
	s, states := m.Init, [][]int{m.Init}
	var tasks []api.Task
	for _, op := range count() {
		after, _ := multi.Apply(m, s, op)
		m.Init = after
		task, _ := multi.Strips(m)
		s, states, tasks = after, append(states, after), append(tasks, task)
	}
	for i, s := range states {
		if want := ints(i/6, i%6); !slices.Equal(s, want) {
			t.Errorf("state %d is now %v, was %v", i, s, want)
		}
	}
	for i, task := range tasks {
		if want := ints((i+1)/6, 6+(i+1)%6); !slices.Equal(task.Init, want) {
			t.Errorf("task %d now begins in %v, was %v", i, task.Init, want)
		}
	}
}
