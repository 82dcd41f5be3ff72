// Package nat is layer 1: numbers from 0 on that don't run over. See shared/doc/01-nat.md.
package nat

import (
	"cmp"

	"drayage/api"
)

// Hold is lo, if n is below it; else hi, if n is above that; else n.
// It is the operators that decide, not cmp.Compare: a number that is none is neither below nor above another one.
func Hold[T cmp.Ordered](n, lo, hi T) T {
	if n < lo {
		return lo
	}
	if n > hi {
		return hi
	}
	return n
}

// Add is a and b together, at most limit.
func Add(a, b, limit int) (int, api.Errno) {
	if a < 0 || b < 0 || limit < 0 {
		return 0, api.ErrArg
	}
	if a > limit-b { // a+b itself may be more than an int holds
		return 0, api.ErrOver
	}
	return a + b, api.OK
}

// Mul is a times b, at most limit.
func Mul(a, b, limit int) (int, api.Errno) {
	if a < 0 || b < 0 || limit < 0 {
		return 0, api.ErrArg
	}
	if a > 0 && b > limit/a { // a*b itself may be more than an int holds
		return 0, api.ErrOver
	}
	return a * b, api.OK
}

// Sum is all of l together, at most limit.
func Sum(l []int, limit int) (int, api.Errno) {
	if limit < 0 || anyBelowZero(l) {
		return 0, api.ErrArg
	}
	sum := 0
	for _, n := range l {
		next, err := Add(sum, n, limit)
		if err != api.OK {
			return 0, err
		}
		sum = next
	}
	return sum, api.OK
}

// anyBelowZero looks at all of l: a number below 0 is told ahead of a sum that ran over before it came.
func anyBelowZero(l []int) bool {
	for _, n := range l {
		if n < 0 {
			return true
		}
	}
	return false
}

// Up is a divided by b, rounded up; 0, if one of them is below 1.
func Up(a, b int) int {
	if a < 1 || b < 1 {
		return 0
	}
	return (a-1)/b + 1 // a+b-1 may be more than an int holds
}
