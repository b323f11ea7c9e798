package fresh_test

import (
	"fmt"
	"reflect"
	"strings"
	"testing"
	"unsafe"

	"bellman/api"
	"bellman/fresh"
)

// fill puts something that is not zero wherever v has room for it: lists of two parts, with room behind them, and of values so many levels.
func fill(v reflect.Value, levels int) {
	switch v.Kind() {
	case reflect.String:
		v.SetString(strings.Clone("text"))
	case reflect.Bool:
		v.SetBool(true)
	case reflect.Slice:
		if v.Type() == reflect.TypeFor[[]api.Value]() {
			levels--
		}
		if levels < 0 {
			return
		}
		l := reflect.MakeSlice(v.Type(), 2, 3)
		for i := range 2 {
			fill(l.Index(i), levels)
		}
		v.Set(l)
	case reflect.Struct:
		for i := range v.NumField() {
			fill(v.Field(i), levels)
		}
	default:
		v.Set(reflect.ValueOf(7).Convert(v.Type()))
	}
}

// places are where all texts and lists within v are.
func places(v reflect.Value) []unsafe.Pointer {
	var all []unsafe.Pointer
	switch v.Kind() {
	case reflect.String:
		if v.Len() > 0 {
			all = append(all, unsafe.Pointer(unsafe.StringData(v.String())))
		}
	case reflect.Slice:
		if v.Cap() > 0 {
			all = append(all, v.UnsafePointer())
		}
		for i := range v.Len() {
			all = append(all, places(v.Index(i))...)
		}
	case reflect.Struct:
		for i := range v.NumField() {
			all = append(all, places(v.Field(i))...)
		}
	}
	return all
}

// isFresh fails, if a copy of something that has all is not as it was, or shares memory.
func isFresh[P any](t *testing.T, copied func(P) P) {
	t.Helper()
	var full, none P
	fill(reflect.ValueOf(&full).Elem(), 3)
	before := fmt.Sprintf("%+v", full)
	one, other := copied(full), copied(full)
	if !reflect.DeepEqual(full, one) || !reflect.DeepEqual(full, other) || fmt.Sprintf("%+v", full) != before {
		t.Errorf("the copy of %+v is %+v", full, one)
	}
	seen := map[unsafe.Pointer]int{}
	for _, of := range []P{full, one, other} {
		if len(places(reflect.ValueOf(of))) == 0 {
			t.Errorf("%+v has no memory", of)
		}
		for _, p := range places(reflect.ValueOf(of)) {
			if seen[p]++; seen[p] > 1 {
				t.Fatalf("the copy of %T shares memory", full)
			}
		}
	}
	if got := copied(none); fmt.Sprintf("%+v", got) != fmt.Sprintf("%+v", none) {
		t.Errorf("the copy of nothing is %+v", got)
	}
}

func TestAllIsAsItWasInNewMemory(t *testing.T) {
	isFresh(t, fresh.Value)
	isFresh(t, fresh.Quiet)
	isFresh(t, fresh.Out)
	isFresh(t, fresh.User)
	isFresh(t, fresh.Category)
	isFresh(t, fresh.Event)
	isFresh(t, fresh.Batch)
	isFresh(t, fresh.Flow)
	isFresh(t, fresh.Message)
	isFresh(t, fresh.State)
	isFresh(t, func(l []string) []string { return fresh.List(l, strings.Clone) })
}

func TestEachPartIsAsItIsCopied(t *testing.T) {
	l := fresh.List([]int{1, 2, 3}, func(n int) int { return n * n })
	if fmt.Sprint(l) != "[1 4 9]" {
		t.Errorf("List is %v", l)
	}
	if l := fresh.List([]int{}, func(n int) int { return n }); l != nil {
		t.Errorf("List of nothing is %v", l)
	}
}
