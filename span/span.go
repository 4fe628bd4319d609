// Package span computes with times, which are exact fractions of a bounded size (layer 1, doc/01-span.md).
package span

import (
	"math/bits"

	"tactus/api"
)

// Check tells whether t is a valid time.
func Check(t api.Time) api.Errno {
	if t.N < 0 || t.N > api.MaxNum || t.D < 1 || t.D > api.MaxDen {
		return api.ErrRange
	}
	if _, divisor := common(t.N, t.D); divisor > 1 {
		return api.ErrForm
	}
	return api.OK
}

// Make returns n divided by d.
func Make(n, d int) (api.Time, api.Errno) {
	if n < 0 || d < 0 {
		return api.Time{}, api.ErrRange
	}
	if d == 0 {
		return api.Time{}, api.ErrZero
	}
	return lowest(n, d)
}

// Add returns a plus b.
func Add(a, b api.Time) (api.Time, api.Errno) {
	return total(a, b)
}

// Sub returns a less b.
func Sub(a, b api.Time) (api.Time, api.Errno) {
	if e := checkBoth(a, b); e != api.OK {
		return api.Time{}, e
	}
	if compare(a, b) < 0 {
		return api.Time{}, api.ErrRange
	}
	return lowest(a.N*b.D-b.N*a.D, a.D*b.D)
}

// Mul returns a times b.
func Mul(a, b api.Time) (api.Time, api.Errno) {
	if e := checkBoth(a, b); e != api.OK {
		return api.Time{}, e
	}
	// A product of two numerators may need 80 bits; cut crosswise first, they need no more than the result has.
	an, divisor := common(a.N, b.D)
	bd := b.D / divisor
	bn, divisor := common(b.N, a.D)
	ad := a.D / divisor
	high, n := bits.Mul64(uint64(an), uint64(bn))
	if high > 0 || n > api.MaxNum {
		return api.Time{}, api.ErrLong
	}
	return lowest(int(n), ad*bd)
}

// Div returns a divided by b.
func Div(a, b api.Time) (api.Time, api.Errno) {
	if e := checkBoth(a, b); e != api.OK {
		return api.Time{}, e
	}
	if b.N == 0 {
		return api.Time{}, api.ErrZero
	}
	return lowest(a.N*b.D, a.D*b.N)
}

// Compare returns -1, 0 or 1: a is less than, equal to or greater than b.
func Compare(a, b api.Time) (int, api.Errno) {
	if e := checkBoth(a, b); e != api.OK {
		return 0, e
	}
	return compare(a, b), api.OK
}

// Sum returns the sum of all times of l.
func Sum(l []api.Time) (api.Time, api.Errno) {
	return total(l...)
}

// Whole returns how many times b fits into a, and the rest.
func Whole(a, b api.Time) (int, api.Time, api.Errno) {
	if e := checkBoth(a, b); e != api.OK {
		return 0, api.Time{}, e
	}
	if b.N == 0 {
		return 0, api.Time{}, api.ErrZero
	}
	n, d := a.N*b.D, b.N*a.D
	rest, e := lowest(n%d, a.D*b.D)
	if e != api.OK {
		return 0, api.Time{}, e
	}
	return n / d, rest, api.OK
}

// checkBoth returns the error of a, or else that of b.
func checkBoth(a, b api.Time) api.Errno {
	if e := Check(a); e != api.OK {
		return e
	}
	return Check(b)
}

// compare compares valid times: their products over crosswise stay below 2^61.
func compare(a, b api.Time) int {
	left, right := a.N*b.D, b.N*a.D
	switch {
	case left < right:
		return -1
	case left > right:
		return 1
	}
	return 0
}

// total adds one time after the other; the sum has to be valid after each of them.
func total(times ...api.Time) (api.Time, api.Errno) {
	for _, t := range times {
		if e := Check(t); e != api.OK {
			return api.Time{}, e
		}
	}
	sum := api.Time{N: 0, D: 1}
	for _, t := range times {
		next, e := lowest(sum.N*t.D+t.N*sum.D, sum.D*t.D)
		if e != api.OK {
			return api.Time{}, e
		}
		sum = next
	}
	return sum, api.OK
}

// lowest returns n divided by d in lowest terms, for n from 0 and d from 1 on.
func lowest(n, d int) (api.Time, api.Errno) {
	n, divisor := common(n, d)
	d /= divisor
	if n > api.MaxNum || d > api.MaxDen {
		return api.Time{}, api.ErrLong
	}
	return api.Time{N: n, D: d}, api.OK
}

// common divides a by b, b by the rest, and so on, for a from 0 and b from 1 on. The last rest above 0 is their
// greatest common divisor; the quotient is that of a by it.
func common(a, b int) (quotient, rest int) {
	if a%b == 0 {
		return a / b, b
	}
	_, rest = common(b, a%b)
	return a / rest, rest
}
