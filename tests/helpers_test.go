package tests

import (
	"fmt"
	"math"
	"reflect"
	"slices"
	"testing"
	"time"
)

// endsSoon breaks the whole run off when what it was started for has not ended
// by then: a way that comes back to where it was would go on for ever.
func endsSoon(what string) (ended func() bool) {
	return time.AfterFunc(10*time.Second, func() { panic(what + ": no end") }).Stop
}

// A span is the memory of one list, with the room behind it.
type span struct {
	from, to uintptr
	where    string
}

func spansOf(where string, v reflect.Value) []span {
	var all []span
	switch v.Kind() {
	case reflect.Slice:
		if v.Cap() > 0 {
			size := uintptr(v.Cap()) * v.Type().Elem().Size()
			all = append(all, span{v.Pointer(), v.Pointer() + size, where})
		}
		for i := range v.Len() {
			all = append(all, spansOf(fmt.Sprintf("%s[%d]", where, i), v.Index(i))...)
		}
	case reflect.Struct:
		for i := range v.NumField() {
			all = append(all, spansOf(where+"."+v.Type().Field(i).Name, v.Field(i))...)
		}
	}
	return all
}

// sharing names two lists that share memory, one of them of the answers.
func sharing(answers []any, arguments []any) string {
	var new, all []span
	for i, a := range answers {
		new = append(new, spansOf(fmt.Sprint("answer ", i), reflect.ValueOf(a))...)
	}
	for i, a := range arguments {
		all = append(all, spansOf(fmt.Sprint("argument ", i), reflect.ValueOf(a))...)
	}
	all = append(all, new...)
	for _, a := range new {
		for _, b := range all {
			if a.where != b.where && a.from < b.to && b.from < a.to {
				return a.where + " and " + b.where
			}
		}
	}
	return ""
}

func sharesNothing(t *testing.T, answers []any, arguments []any) {
	t.Helper()
	if where := sharing(answers, arguments); where != "" {
		t.Fatal("share memory:", where)
	}
}

func TestSharedMemoryIsSeen(t *testing.T) {
	type pair struct{ A, B []int64 }
	l, other := make([]int64, 2, 8), make([]int64, 2, 8)
	for _, c := range []struct {
		answers, arguments []any
		shared             bool
	}{
		{[]any{pair{A: l}}, []any{pair{B: l}}, true},
		{[]any{l}, []any{l[2:4]}, true},
		{[]any{[][]int64{l[:1], l[1:2]}}, nil, true},
		{[]any{[]pair{{}, {A: l[:0]}}}, []any{3, l}, true},
		{[]any{l, l}, nil, true},
		{[]any{l[:2:2]}, []any{l[2:4]}, false},
		{[]any{l, pair{B: other}}, nil, false},
		{[]any{l}, []any{other, other}, false},
		{[]any{pair{}, l[:0:0], 3, "a"}, []any{pair{A: l}, "a"}, false},
	} {
		if got := sharing(c.answers, c.arguments); (got != "") != c.shared {
			t.Error(c, got)
		}
	}
}

// The Ids of no node and of no object, whatever the heap.
var idsOfNothing = []int64{0, -1, -2, math.MinInt64, math.MaxInt64, math.MaxInt32, 1000000000, 1000000001, 1 << 32, 1<<32 + 1}

func permutations(l []int64) [][]int64 {
	if len(l) == 0 {
		return [][]int64{nil}
	}
	var all [][]int64
	for i := range l {
		rest := append(slices.Clone(l[:i]), l[i+1:]...)
		for _, p := range permutations(rest) {
			all = append(all, append([]int64{l[i]}, p...))
		}
	}
	return all
}
