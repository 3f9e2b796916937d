package tests

import (
	"math"
	"reflect"
	"slices"
	"testing"
)

// wildNumbers are numbers that are out of nearly all bounds, and would overflow where they are added or multiplied.
var wildNumbers = []int{-1, math.MinInt64, math.MinInt64 + 1, -1 << 32, 1 << 31, 1 << 32, 1 << 62, math.MaxInt64 - 1, math.MaxInt64}

// isZero takes a nil slice and an empty slice as the same value, as the document does.
func isZero(result any) bool {
	return isZeroValue(reflect.ValueOf(result))
}

func isZeroValue(v reflect.Value) bool {
	switch v.Kind() {
	case reflect.Slice:
		return v.Len() == 0
	case reflect.Struct:
		for k := range v.NumField() {
			if !isZeroValue(v.Field(k)) {
				return false
			}
		}
		return true
	}
	return v.IsZero()
}

func wantZero(t *testing.T, what string, results []any) {
	t.Helper()
	for k, r := range results {
		if !isZero(r) {
			t.Errorf("%s: result %d is %v, want its zero value", what, k, r)
		}
	}
}

func wantSame(t *testing.T, what string, got []any, want ...any) {
	t.Helper()
	if len(got) != len(want) {
		t.Errorf("%s: %d results, want %d", what, len(got), len(want))
		return
	}
	for k := range want {
		if isZero(got[k]) && isZero(want[k]) {
			continue
		}
		if !reflect.DeepEqual(got[k], want[k]) && !reflect.DeepEqual(copied(got[k:k+1]), copied(want[k:k+1])) {
			t.Errorf("%s: result %d is %v, want %v", what, k, got[k], want[k])
		}
	}
}

// A guarded list has marks behind its length, within its capacity.
type guarded[T comparable] struct {
	list []T
	all  []T
	want []T
}

func guard[T comparable](list []T, mark T) guarded[T] {
	all := slices.Clone(list)
	for range 8 {
		all = append(all, mark)
	}
	return guarded[T]{list: all[:len(list)], all: all, want: slices.Clone(all)}
}

func (g guarded[T]) check(t *testing.T, what string) {
	t.Helper()
	if !slices.Equal(g.all, g.want) {
		t.Errorf("%s: the argument or what is behind it became %v, was %v", what, g.all, g.want)
	}
}

// copied and spoil reach the inner lists of results as well, and those in structs; empty lists become nil ones in what is
// copied, and spoil reaches up to the capacity of slices, as a caller who appends to them does.
func copied(results []any) []any {
	out := make([]any, len(results))
	for k, r := range results {
		out[k] = copiedValue(reflect.ValueOf(r)).Interface()
	}
	return out
}

func copiedValue(v reflect.Value) reflect.Value {
	if v.Kind() == reflect.Struct {
		return copiedStruct(v)
	}
	if v.Kind() != reflect.Slice {
		return v
	}
	if v.Len() == 0 {
		return reflect.Zero(v.Type())
	}
	c := reflect.MakeSlice(v.Type(), v.Len(), v.Len())
	for k := range v.Len() {
		c.Index(k).Set(copiedValue(v.Index(k)))
	}
	return c
}

func copiedStruct(v reflect.Value) reflect.Value {
	c := reflect.New(v.Type()).Elem()
	for k := range v.NumField() {
		c.Field(k).Set(copiedValue(v.Field(k)))
	}
	return c
}

func spoil(results []any) {
	for _, r := range results {
		spoilValue(reflect.ValueOf(r))
	}
}

func spoilValue(v reflect.Value) {
	if v.Kind() == reflect.Struct {
		for k := range v.NumField() {
			spoilValue(v.Field(k))
		}
	}
	if v.Kind() != reflect.Slice {
		return
	}
	v = v.Slice(0, v.Cap())
	for k := range v.Len() {
		spoilValue(v.Index(k))
		if v.Index(k).Kind() == reflect.Int {
			v.Index(k).SetInt(-77)
		} else {
			v.Index(k).SetZero()
		}
	}
}

// random returns numbers that look random and are the same in each run.
func random(seed uint64) func(below int) int {
	return func(below int) int {
		seed = seed*6364136223846793005 + 1442695040888963407
		return int(seed>>33) % below
	}
}

// eachList calls do with all lists of so many numbers in 0..most.
func eachList(size int, most int, do func([]int)) {
	list := make([]int, size)
	var fill func(k int)
	fill = func(k int) {
		if k == size {
			do(slices.Clone(list))
			return
		}
		for n := range most + 1 {
			list[k] = n
			fill(k + 1)
		}
	}
	fill(0)
}

// eachText calls do with all texts of so many of some bytes.
func eachText(size int, bytes string, do func(string)) {
	eachList(size, len(bytes)-1, func(list []int) {
		s := ""
		for _, k := range list {
			s += bytes[k : k+1]
		}
		do(s)
	})
}

func repeated(n int, times int) []int {
	return slices.Repeat([]int{n}, times)
}
