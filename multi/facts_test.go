package multi_test

import (
	"fmt"
	"testing"

	"helmsman/api"
	"helmsman/multi"
	"helmsman/strips"
)

// TestStrips covers R9.6.
func TestStrips(t *testing.T) {
	for _, c := range []struct {
		name string
		task api.MultiTask
		want api.Task
	}{
		{"lift", lift(), api.Task{
			Facts: 16,
			Init:  ints(0, 3, 5, 9, 15),
			Goal:  ints(3, 7),
			Operators: []api.Operator{
				raise:  {Pre: ints(0, 3), Add: ints(2, 10), Del: ints(0, 1, 11, 12, 13, 14, 15), Cost: 7},
				unlock: {Pre: ints(3), Add: ints(4), Del: ints(3), Cost: 1},
				lock:   {Add: ints(3), Del: ints(4), Cost: 2},
				enter:  {Pre: ints(0, 4, 5), Add: ints(8), Del: ints(5, 6, 7)},
				leave:  {Pre: ints(2, 4, 8), Add: ints(7), Del: ints(5, 6, 8), Cost: 20},
				lower:  {Pre: ints(2, 3), Add: ints(1, 4, 9, 12), Del: ints(0, 2, 3, 10, 11, 13, 14, 15), Cost: api.MaxCost},
				pause:  {},
			},
		}},
		{"example", api.MultiTask{Sizes: ints(2, 3), Init: ints(0, 1)}, api.Task{Facts: 5, Init: ints(0, 3)}},
		{"all variables but the first one in Goal and Pre", api.MultiTask{Sizes: ints(2, 3, 2), Init: ints(1, 2, 1), Goal: is([2]int{1, 0}, [2]int{2, 1}), Operators: []api.MultiOperator{
			{Pre: is([2]int{1, 1}, [2]int{2, 0}), Post: is([2]int{2, 0}), Cost: 3},
		}}, api.Task{Facts: 7, Init: ints(1, 4, 6), Goal: ints(2, 6), Operators: []api.Operator{
			{Pre: ints(3, 5), Add: ints(5), Del: ints(6), Cost: 3},
		}}},
		{"variables with one value", api.MultiTask{Sizes: ints(1, 1), Init: ints(0, 0), Goal: is([2]int{1, 0}), Operators: []api.MultiOperator{
			{Post: is([2]int{0, 0})}, {Pre: is([2]int{0, 0}), Post: is([2]int{0, 0}, [2]int{1, 0}), Cost: 5},
		}}, api.Task{Facts: 2, Init: ints(0, 1), Goal: ints(1), Operators: []api.Operator{
			{Add: ints(0)}, {Pre: ints(0), Add: ints(0, 1), Cost: 5},
		}}},
		{"as many facts as permitted", api.MultiTask{Sizes: ints(6, 6, 6, 6), Init: ints(5, 4, 3, 5), Operators: []api.MultiOperator{{Post: is([2]int{3, 4})}}}, api.Task{
			Facts: api.MaxFacts, Init: ints(5, 10, 15, 23), Operators: []api.Operator{{Add: ints(22), Del: ints(18, 19, 20, 21, 23)}},
		}},
		{"as many operators as permitted", idle(api.MaxOperators), api.Task{Facts: 1, Init: ints(0), Operators: make([]api.Operator, api.MaxOperators)}},
		{"as many variables as permitted", api.MultiTask{Sizes: repeat(3, api.MaxVariables), Init: make([]int, api.MaxVariables), Goal: is([2]int{7, 2})}, api.Task{
			Facts: 24, Init: ints(0, 3, 6, 9, 12, 15, 18, 21), Goal: ints(23),
		}},
	} {
		got, f := multi.Strips(c.task)
		if f != fault(0, 0) || fmt.Sprint(got) != fmt.Sprint(c.want) {
			t.Errorf("%s: got %v, %v, want %v", c.name, got, f, c.want)
		}
		if f := strips.Validate(got); f != fault(0, 0) {
			t.Errorf("%s: the task is not valid: %v", c.name, f)
		}
	}
}

// TestTooManyFacts covers ErrTooLarge of R9.6 from both sides of the limit.
func TestTooManyFacts(t *testing.T) {
	large := fault(api.ErrTooLarge, -8)
	for _, c := range []struct {
		sizes []int
		want  api.Fault
	}{
		{ints(6, 6, 6, 5), fault(0, 0)},
		{ints(6, 6, 6, 6), fault(0, 0)},
		{ints(5, 4, 4, 4, 4, 1, 1, 1), fault(0, 0)},
		{ints(6, 6, 6, 6, 1), large},
		{ints(1, 6, 6, 6, 6), large},
		{ints(5, 5, 5, 5, 5), large},
		{ints(5, 4, 4, 4, 4, 1, 1, 2), large},
		{repeat(6, api.MaxVariables), large},
	} {
		m := api.MultiTask{Sizes: c.sizes, Init: make([]int, len(c.sizes)), Operators: []api.MultiOperator{{Pre: is([2]int{0, 0})}}}
		got, f := multi.Strips(m)
		if f != c.want || f != fault(0, 0) && fmt.Sprint(got) != fmt.Sprint(api.Task{}) {
			t.Errorf("%v: got %v, %v, want %v", c.sizes, got, f, c.want)
		}
		if f := multi.Validate(m); f != fault(0, 0) {
			t.Errorf("%v: the task is not valid: %v", c.sizes, f)
		}
	}
}
