package numeric

import (
	"slices"

	"helmsman/api"
)

// interval is a smallest and a greatest number. The sums that are computed with them are far within the range of int: a sum has at most MaxVariables products, each of at most MaxMultiple times MaxNumber.
type interval = [2]int

// exactly returns one interval per value, which contains this value only. What is computed with such intervals is exact: both ends of each sum are the same, and comparisons that may hold do hold.
func exactly(values []int) []interval {
	intervals := make([]interval, len(values))
	for i, v := range values {
		intervals[i] = interval{v, v}
	}
	return intervals
}

// sum returns the interval of the sum of factors for variables with the given intervals.
func sum(factors []int, values []interval) interval {
	var s interval
	for i, factor := range factors {
		one, other := factor*values[i][0], factor*values[i][1]
		s[0] += min(one, other)
		s[1] += max(one, other)
	}
	return s
}

// changed returns the interval of a variable after a change.
func changed(c api.Change, before []interval) interval {
	s := sum(c.Factors, before)
	return interval{s[0] + c.Constant, s[1] + c.Constant}
}

// mayHold reports whether the ends of the sum of each comparison leave it possible. It can still be false for all values in the intervals.
func mayHold(comparisons []api.Comparison, values []interval) bool {
	isExcluded := func(c api.Comparison) bool {
		s := sum(c.Factors, values)
		return s[1] < c.Bound || c.Kind == api.CompareEqual && s[0] > c.Bound
	}
	return !slices.ContainsFunc(comparisons, isExcluded)
}

// extended returns the intervals of the variables after one more step with one of the operators, or with none.
func extended(operators []api.NumericOperator, before []interval) []interval {
	after := slices.Clone(before)
	for _, o := range operators {
		if !mayHold(o.Pre, before) {
			continue
		}
		for _, c := range o.Changes {
			known, further := after[c.Var], changed(c, before)
			after[c.Var] = interval{
				max(-api.MaxNumber, min(known[0], further[0])),
				min(api.MaxNumber, max(known[1], further[1])),
			}
		}
	}
	return after
}
