package numeric_test

import (
	"fmt"
	"reflect"
	"slices"
	"testing"

	"helmsman/api"
	"helmsman/numeric"
)

// roomy returns a copy of a list with spare capacity that holds another element.
func roomy[E any](l []E, spare E) []E { return append(slices.Clone(l), spare)[:len(l)] }

// whole returns a list with its spare capacity.
func whole[E any](l []E) []E { return l[:cap(l)] }

func roomyComparisons(l []api.Comparison) []api.Comparison {
	l = roomy(l, atLeast(77, 77))
	for i := range l {
		l[i].Factors = roomy(l[i].Factors, 77)
	}
	return l
}

// roomyCall returns a copy of arguments whose lists have spare capacity.
func roomyCall(c call) call {
	c.v, c.plan = roomy(c.v, 77), roomy(c.plan, 77)
	c.task.Init, c.task.Goal = roomy(c.task.Init, 77), roomyComparisons(c.task.Goal)
	c.task.Operators = roomy(c.task.Operators, free(set(77, 77)))
	for i, o := range c.task.Operators {
		o.Pre, o.Changes = roomyComparisons(o.Pre), roomy(o.Changes, set(77, 77))
		for k := range o.Changes {
			o.Changes[k].Factors = roomy(o.Changes[k].Factors, 77)
		}
		c.task.Operators[i] = o
	}
	return c
}

// memory describes all that a value refers to, with the lengths and the spare capacity of its lists.
func memory(v reflect.Value) string {
	s := ""
	switch v.Kind() {
	case reflect.Struct:
		for i := range v.NumField() {
			s += memory(v.Field(i)) + ","
		}
	case reflect.Slice:
		s = fmt.Sprint(v.Len(), ":")
		for i := range v.Cap() {
			s += memory(v.Slice(0, v.Cap()).Index(i)) + " "
		}
	default:
		s = fmt.Sprint(v)
	}
	return s
}

// TestMemory covers Z4 and Z5: arguments and their spare capacity are not modified, results share no memory with them or with each other, and they depend on the arguments only.
func TestMemory(t *testing.T) {
	idle := call{operators(ints(1, 2), free()), ints(1, 2), 0, nil, 0}
	longer := valid()
	longer.steps, longer.v, longer.op = 9, ints(-1, 5, 9), buy
	for _, c := range []call{valid(), idle, longer, {task: mill(), v: ints(1, 2, 3), op: sell, plan: ints(sell), steps: 1}, {task: mill(), op: 9, plan: ints(9), steps: -1}} {
		c := roomyCall(c)
		before := memory(reflect.ValueOf(c))
		for _, f := range functions {
			r1, f1 := f.run(c)
			first := fmt.Sprint(r1, f1)
			r2, f2 := f.run(c)
			overwrite(r1)
			if second := fmt.Sprint(r2, f2); second != first {
				t.Errorf("%s: got %s and then %s", f.name, first, second)
			}
			overwrite(r2)
			if after := memory(reflect.ValueOf(c)); after != before {
				t.Fatalf("%s: the arguments are now %s, were %s", f.name, after, before)
			}
		}
	}
}

// overwrite changes a result and its spare capacity.
func overwrite(result any) {
	switch l := result.(type) {
	case []int:
		for i := range whole(l) {
			whole(l)[i] = 99
		}
	case [][2]int:
		for i := range whole(l) {
			whole(l)[i] = [2]int{99, 99}
		}
	}
}

// TestKeptResults covers Z4 for results of earlier calls: they remain as they were.
func TestKeptResults(t *testing.T) {
	task := operators(ints(0, 0), free(set(0, 1, 1, 0)), free(set(1, -1, 0, 1)))
	v := ints(0, 0)
	var lists [][]int
	var bounds [][][2]int
	for i := range 10 {
		after, _ := numeric.Apply(task, v, i%2)
		b, _ := numeric.Bounds(task, i)
		v, lists, bounds = after, append(lists, after), append(bounds, b)
	}
	for i := range 10 {
		if want := ints((i+2)/2, -(i+1)/2); !slices.Equal(lists[i], want) {
			t.Errorf("the result of call %d is now %v, was %v", i, lists[i], want)
		}
		if want := intervals([2]int{0, i}, [2]int{-i, 0}); !slices.Equal(bounds[i], want) {
			t.Errorf("the result of call %d is now %v, was %v", i, bounds[i], want)
		}
	}
}
