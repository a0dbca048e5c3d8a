package strips

import (
	"math/bits"
)

// set is a set of facts: bit i tells whether fact i is in it. A task has at most MaxFacts facts, which is less than 64.
type set uint64

// isSet reports whether l is a strictly increasing list of the facts from 0 to below the limit.
func isSet(l []int, limit int) bool {
	least := 0
	for _, fact := range l {
		if fact < least || fact >= limit {
			return false
		}
		least = fact + 1
	}
	return true
}

// setOf returns the set of the facts in a list.
func setOf(l []int) set {
	var s set
	for _, fact := range l {
		s |= 1 << fact
	}
	return s
}

// list returns the facts of a set in increasing order.
func (s set) list() []int {
	var l []int
	for ; s != 0; s &= s - 1 { // removes the least element
		l = append(l, bits.TrailingZeros64(uint64(s)))
	}
	return l
}

// contains reports whether all elements of a set are in s.
func (s set) contains(part set) bool { return part&^s == 0 }
