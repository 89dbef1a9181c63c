package tests

import (
	"fmt"
	"math"
	"reflect"
	"slices"
	"testing"
)

// wild are numbers at which sums, products and signs go wrong if they are not checked first.
var wild = []int{
	math.MinInt, math.MinInt + 1, math.MinInt / 2, -1000000000001, -1000000000000, -1000001, -1000000,
	-2, -1, 0, 1, 2, 60, 61, 1000, 1001, 1000000, 1000001, 1000000000000, 1000000000001,
	math.MaxInt / 2, math.MaxInt - 1, math.MaxInt,
}

// calm runs a call and reports it if it panics.
func calm(t *testing.T, what string, call func()) {
	t.Helper()
	defer func() {
		if r := recover(); r != nil {
			t.Errorf("%s panics: %v", what, r)
		}
	}()
	call()
}

// spared returns a copy of a list that has more capacity than length, and a
// function that tells whether the list and what is behind it are as they were.
func spared(l []int) ([]int, func() bool) {
	whole := append(slices.Clone(l), 77, -77, 77)
	before := slices.Clone(whole)
	return whole[:len(l)], func() bool { return slices.Equal(whole, before) }
}

// repeated returns a list with one number several times.
func repeated(n, times int) []int {
	return slices.Repeat([]int{n}, times)
}

// mixing returns a function that gives further numbers below a bound, the same ones for each seed.
func mixing(seed int) func(below int) int {
	return func(below int) int {
		seed = (seed*1103515245 + 12345) % 2147483648
		return seed / 65536 % below
	}
}

// isNothing tells whether a value is zero; a slice may be nil or empty.
func isNothing(v reflect.Value) bool {
	switch v.Kind() {
	case reflect.Slice:
		return v.Len() == 0
	case reflect.Struct:
		for i := range v.NumField() {
			if !isNothing(v.Field(i)) {
				return false
			}
		}
		return true
	}
	return v.IsZero()
}

// wholeText is a text of all that a value holds, with what is behind the lengths of its slices.
func wholeText(v reflect.Value) string {
	text := ""
	switch v.Kind() {
	case reflect.Slice:
		whole := v.Slice(0, v.Cap())
		for i := range whole.Len() {
			text += wholeText(whole.Index(i)) + ","
		}
		return fmt.Sprint("[", v.Len(), ":", text, "]")
	case reflect.Struct:
		for i := range v.NumField() {
			text += wholeText(v.Field(i)) + ";"
		}
		return "{" + text + "}"
	}
	return fmt.Sprintf("%#v", v)
}

// cellsOf are the addresses of all elements of all slices that a value holds, with their spare capacity.
func cellsOf(v reflect.Value) []uintptr {
	var cells []uintptr
	switch v.Kind() {
	case reflect.Slice:
		whole := v.Slice(0, v.Cap())
		for i := range whole.Len() {
			cells = append(cells, whole.Index(i).UnsafeAddr())
			cells = append(cells, cellsOf(whole.Index(i))...)
		}
	case reflect.Struct:
		for i := range v.NumField() {
			cells = append(cells, cellsOf(v.Field(i))...)
		}
	}
	return cells
}

// checkApart checks that no two slices of a result share memory, and none with an argument or a further result.
func checkApart(t *testing.T, what string, result any, others ...any) {
	t.Helper()
	taken := map[uintptr]bool{}
	for _, other := range others {
		for _, cell := range cellsOf(reflect.ValueOf(other)) {
			taken[cell] = true
		}
	}
	for _, cell := range cellsOf(reflect.ValueOf(result)) {
		if taken[cell] {
			t.Errorf("%s: %+v shares memory", what, result)
			return
		}
		taken[cell] = true
	}
}
