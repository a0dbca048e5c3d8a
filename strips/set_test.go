package strips_test

import (
	"math"
	"slices"
	"testing"

	"helmsman/strips"
)

// TestIsSet covers lists of numbers below a limit, as facts of a state have to be.
func TestIsSet(t *testing.T) {
	for _, c := range []struct {
		l     []int
		limit int
		want  bool
	}{
		{nil, 0, true},
		{nil, -1, true},
		{ints(), 3, true},
		{ints(0), 1, true},
		{ints(0), 0, false},
		{ints(0, 1, 2), 3, true},
		{ints(0, 2), 3, true},
		{ints(2), 3, true},
		{ints(3), 3, false},
		{ints(0, 1, 2, 3), 3, false},
		{ints(1, 0), 3, false},
		{ints(1, 1), 3, false},
		{ints(0, 0), 3, false},
		{ints(0, 2, 1), 3, false},
		{ints(-1), 3, false},
		{ints(-1, 0), 3, false},
		{ints(0, -1), 3, false},
		{ints(-1), -1, false},
		{ints(math.MinInt), 3, false},
		{ints(math.MaxInt), 3, false},
		{ints(5, 64, 1000), 1001, true},
		{ints(math.MaxInt - 1), math.MaxInt, true},
		{ints(math.MaxInt-1, math.MinInt), math.MaxInt, false},
		{ints(math.MaxInt - 1), math.MinInt, false},
	} {
		if got := strips.IsSet(c.l, c.limit); got != c.want {
			t.Errorf("%v below %d: got %v", c.l, c.limit, got)
		}
	}
}

// TestSets covers sets of numbers: their elements, how many there are, and what they contain.
func TestSets(t *testing.T) {
	for _, c := range []struct {
		l    []int
		want []int
	}{
		{nil, nil},
		{ints(0), ints(0)},
		{ints(63), ints(63)},
		{ints(5, 3, 5, 0), ints(0, 3, 5)},
		{ints(31, 32, 33), ints(31, 32, 33)},
		{upTo(64), upTo(64)},
		{upTo(70), upTo(64)},
		{ints(-1, 64, 128, math.MinInt, math.MaxInt, math.MinInt+1), nil},
		{ints(-1, 7, 64), ints(7)},
	} {
		s := strips.SetOf(c.l)
		if got := s.List(); !slices.Equal(got, c.want) || s.Len() != len(c.want) {
			t.Errorf("the set of %v: got %v with %d elements, want %v", c.l, got, s.Len(), c.want)
		}
		for n := range 64 {
			part := strips.SetOf(ints(n))
			if got := s.Contains(part); got != slices.Contains(c.want, n) {
				t.Errorf("the set of %v contains %d: got %v", c.l, n, got)
			}
		}
	}
	for _, a := range subsets(4) {
		for _, b := range subsets(4) {
			if got := strips.SetOf(a).Contains(strips.SetOf(b)); got != within(b, a) {
				t.Errorf("%v contains %v: got %v", a, b, got)
			}
		}
	}
}
