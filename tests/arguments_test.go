package tests

import (
	"reflect"
	"runtime"
	"slices"
	"testing"
	"time"
)

// namedCall is a function of the program, called with arguments of a kind. The last
// result is told apart from the others.
type namedCall[A any] struct {
	name string
	call func(A) ([]any, bool)
}

// isZero takes a nil slice and an empty one for the same value.
func isZero(v reflect.Value) bool {
	switch v.Kind() {
	case reflect.Slice:
		return v.Len() == 0
	case reflect.Struct:
		for i := range v.NumField() {
			if !isZero(v.Field(i)) {
				return false
			}
		}
		return true
	}
	return v.IsZero()
}

func allZero(results []any) bool {
	for _, x := range results {
		if !isZero(reflect.ValueOf(x)) {
			return false
		}
	}
	return true
}

// told returns all numbers and texts of a value, and the lengths of its slices: if it is
// asked for, with what lies behind these lengths.
func told(v reflect.Value, behind bool) []any {
	var list []any
	switch v.Kind() {
	case reflect.Interface:
		return told(v.Elem(), behind)
	case reflect.Slice:
		list = append(list, v.Len())
		if behind {
			v = v.Slice(0, v.Cap())
		}
		for i := range v.Len() {
			list = append(list, told(v.Index(i), behind)...)
		}
	case reflect.Struct:
		for i := range v.NumField() {
			list = append(list, told(v.Field(i), behind)...)
		}
	default:
		list = append(list, v.Interface())
	}
	return list
}

// withRoom returns a value in memory of its own, with junk behind each of its slices.
func withRoom(v reflect.Value) reflect.Value {
	const room = 4
	w := reflect.New(v.Type()).Elem()
	switch v.Kind() {
	case reflect.Slice:
		list := reflect.MakeSlice(v.Type(), v.Len()+room, v.Len()+room)
		for i := range v.Len() {
			list.Index(i).Set(withRoom(v.Index(i)))
		}
		w.Set(list.Slice(0, v.Len()))
		spoil(list.Slice(v.Len(), v.Len()+room))
	case reflect.Struct:
		for i := range v.NumField() {
			w.Field(i).Set(withRoom(v.Field(i)))
		}
	default:
		w.Set(v)
	}
	return w
}

// spoil writes over all memory that a value's slices have, with what is behind their lengths.
func spoil(v reflect.Value) {
	switch v.Kind() {
	case reflect.Interface:
		spoil(v.Elem())
	case reflect.Slice:
		list := v.Slice(0, v.Cap())
		for i := range list.Len() {
			spoil(list.Index(i))
		}
	case reflect.Struct:
		for i := range v.NumField() {
			spoil(v.Field(i))
		}
	case reflect.Int:
		if v.CanSet() {
			v.SetInt(-77)
		}
	case reflect.String:
		if v.CanSet() {
			v.SetString("junk")
		}
	case reflect.Bool:
		if v.CanSet() {
			v.SetBool(!v.Bool())
		}
	}
}

// span is the memory of a slice.
type span struct{ from, to uintptr }

// spansOf returns the memory of all slices of a value.
func spansOf(v reflect.Value) []span {
	var list []span
	switch v.Kind() {
	case reflect.Interface:
		return spansOf(v.Elem())
	case reflect.Slice:
		if size := uintptr(v.Cap()) * v.Type().Elem().Size(); size > 0 {
			list = append(list, span{v.Pointer(), v.Pointer() + size})
		}
		for i := range v.Len() {
			list = append(list, spansOf(v.Index(i))...)
		}
	case reflect.Struct:
		for i := range v.NumField() {
			list = append(list, spansOf(v.Field(i))...)
		}
	}
	return list
}

func overlap(list []span) bool {
	list = slices.SortedFunc(slices.Values(list), func(a, b span) int {
		if a.from < b.from {
			return -1
		}
		return 1
	})
	for i := 1; i < len(list); i++ {
		if list[i].from < list[i-1].to {
			return true
		}
	}
	return false
}

// checkFailuresAreZero calls everything with all arguments; a panic fails the test.
func checkFailuresAreZero[A any](t *testing.T, calls []namedCall[A], list []A) {
	t.Helper()
	for _, a := range list {
		for _, c := range calls {
			if results, ok := c.call(a); !ok && !allZero(results) {
				t.Fatalf("%s of %+v fails with %v", c.name, a, results)
			}
		}
	}
}

// checkArgumentsAreKept looks that calls leave arguments as they are, give out no memory
// of them, do not look behind slices, and return the same once more.
func checkArgumentsAreKept[A any](t *testing.T, calls []namedCall[A], list []A) {
	t.Helper()
	for _, a := range list {
		for _, c := range calls {
			roomy := withRoom(reflect.ValueOf(a))
			before := told(roomy, true)
			first, fine := c.call(a)
			want := told(reflect.ValueOf(first), false)
			got, ok := c.call(roomy.Interface().(A))
			results := reflect.ValueOf(got)
			if ok != fine || !slices.Equal(told(results, false), want) {
				t.Fatalf("%s of %+v is %v, %v with room, %v, %v without", c.name, a, got, ok, first, fine)
			}
			if overlap(slices.Concat(spansOf(roomy), spansOf(results))) {
				t.Fatalf("%s of %+v shares memory", c.name, a)
			}
			spoil(results)
			if !slices.Equal(told(roomy, true), before) {
				t.Fatalf("%s of %+v changes its argument", c.name, a)
			}
			again, ok := c.call(a)
			if ok != fine || !slices.Equal(told(reflect.ValueOf(again), false), want) {
				t.Fatalf("%s of %+v is another one at the second call", c.name, a)
			}
		}
	}
}

// checkFails looks that the calls with these names fail with one of some arguments.
func checkFails[A any](t *testing.T, calls []namedCall[A], list []A, names ...string) {
	t.Helper()
	for _, a := range list {
		for _, c := range chosen(t, calls, names...) {
			if results, ok := c.call(a); ok {
				t.Errorf("%s of %+v is %v", c.name, a, results)
			}
		}
	}
}

// checkSucceeds looks that the calls with these names succeed.
func checkSucceeds[A any](t *testing.T, calls []namedCall[A], list []A, names ...string) {
	t.Helper()
	for _, a := range list {
		for _, c := range chosen(t, calls, names...) {
			if results, ok := c.call(a); !ok {
				t.Errorf("%s of %+v fails with %v", c.name, a, results)
			}
		}
	}
}

func chosen[A any](t *testing.T, calls []namedCall[A], names ...string) []namedCall[A] {
	t.Helper()
	var list []namedCall[A]
	for _, c := range calls {
		if slices.Contains(names, c.name) {
			list = append(list, c)
		}
	}
	if len(list) != len(names) {
		t.Fatalf("%v are not all functions", names)
	}
	return list
}

func namesBut[A any](calls []namedCall[A], but ...string) []string {
	var names []string
	for _, c := range calls {
		if !slices.Contains(but, c.name) {
			names = append(names, c.name)
		}
	}
	return names
}

// waitForGoroutines looks that soon there are no more goroutines than there were before.
func waitForGoroutines(t *testing.T, before int) {
	t.Helper()
	for range 100 {
		if runtime.NumGoroutine() <= before {
			return
		}
		time.Sleep(10 * time.Millisecond)
	}
	t.Error(runtime.NumGoroutine(), "goroutines, not", before)
}
