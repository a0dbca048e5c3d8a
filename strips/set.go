package strips

import (
	"math/bits"
)

// Set is a set of numbers from 0 to 63: bit i tells whether i is in it. Its elements are facts or operators, of which a task has at most MaxFacts and MaxOperators.
type Set uint64

// IsSet reports whether l is a strictly increasing list of numbers from 0 to below the limit.
func IsSet(l []int, limit int) bool {
	least := 0
	for _, n := range l {
		if n < least || n >= limit {
			return false
		}
		least = n + 1
	}
	return true
}

// SetOf returns the set of the numbers in a list, without those that no set contains.
func SetOf(l []int) Set {
	var s Set
	for _, n := range l {
		s |= 1 << uint(n) // a negative number, too, becomes one of at least 64
	}
	return s
}

// List returns the elements of a set in increasing order.
func (s Set) List() []int {
	var l []int
	for ; s != 0; s &= s - 1 { // removes the least element
		l = append(l, bits.TrailingZeros64(uint64(s)))
	}
	return l
}

// Len returns the number of elements of a set.
func (s Set) Len() int { return bits.OnesCount64(uint64(s)) }

// Contains reports whether all elements of a set are in s.
func (s Set) Contains(part Set) bool { return part&^s == 0 }
