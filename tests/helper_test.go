package tests

import (
	"math"
	"slices"
	"testing"
)

// wild are numbers at which sums, products and signs go wrong if they are not checked first.
var wild = []int{
	math.MinInt, math.MinInt + 1, math.MinInt / 2, -1000000000001, -1000000000000, -1000001, -1000000,
	-2, -1, 0, 1, 2, 60, 61, 1000, 1001, 1000000, 1000001, 1000000000000, 1000000000001,
	math.MaxInt / 2, math.MaxInt - 1, math.MaxInt,
}

// calm runs a call and reports it if it panics.
func calm(t *testing.T, what string, call func()) {
	t.Helper()
	defer func() {
		if r := recover(); r != nil {
			t.Errorf("%s panics: %v", what, r)
		}
	}()
	call()
}

// spared returns a copy of a list that has more capacity than length, and a
// function that tells whether the list and what is behind it are as they were.
func spared(l []int) ([]int, func() bool) {
	whole := append(slices.Clone(l), 77, -77, 77)
	before := slices.Clone(whole)
	return whole[:len(l)], func() bool { return slices.Equal(whole, before) }
}

// repeated returns a list with one number several times.
func repeated(n, times int) []int {
	return slices.Repeat([]int{n}, times)
}

// mixing returns a function that gives further numbers below a bound, the same ones for each seed.
func mixing(seed int) func(below int) int {
	return func(below int) int {
		seed = (seed*1103515245 + 12345) % 2147483648
		return seed / 65536 % below
	}
}
