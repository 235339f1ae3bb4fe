package fresh_test

import (
	"reflect"
	"testing"

	"paydesk/fresh"
)

// fill a value, its lists with two things each, with spare room for more; empty ones, if they are to be so.
func fill(v reflect.Value, n *int, full bool) {
	*n++
	switch v.Kind() {
	case reflect.Int:
		v.SetInt(int64(*n % 100))
	case reflect.Uint8, reflect.Uint32, reflect.Uint64:
		v.SetUint(uint64(*n % 100))
	case reflect.Bool:
		v.SetBool(*n%2 == 0)
	case reflect.String:
		v.SetString(string(rune('a' + *n%26)))
	case reflect.Slice:
		size := 0
		if full {
			size = 2
		}
		v.Set(reflect.MakeSlice(v.Type(), size, 4))
		for i := range size {
			fill(v.Index(i), n, full)
		}
	case reflect.Array:
		for i := range v.Len() {
			fill(v.Index(i), n, full)
		}
	case reflect.Struct:
		for i := range v.NumField() {
			fill(v.Field(i), n, full)
		}
	}
}

// memory of all lists of a value: where each thing of theirs stands.
func memory(v reflect.Value, at map[uintptr]bool) {
	switch v.Kind() {
	case reflect.Slice:
		whole := v.Slice(0, v.Cap())
		for i := range whole.Len() {
			at[whole.Index(i).Addr().Pointer()] = true
			memory(whole.Index(i), at)
		}
	case reflect.Array:
		for i := range v.Len() {
			memory(v.Index(i), at)
		}
	case reflect.Struct:
		for i := range v.NumField() {
			memory(v.Field(i), at)
		}
	}
}

func check[T any](t *testing.T, name string, f func(T) T) {
	for _, kind := range []string{"zero", "empty", "full"} {
		var v T
		n := 0
		if kind != "zero" {
			fill(reflect.ValueOf(&v).Elem(), &n, kind == "full")
		}
		got := f(v)
		if !reflect.DeepEqual(got, v) {
			t.Errorf("%s, %s: %v is another one than %v", name, kind, got, v)
		}
		mine, theirs := map[uintptr]bool{}, map[uintptr]bool{}
		memory(reflect.ValueOf(&v).Elem(), mine)
		memory(reflect.ValueOf(&got).Elem(), theirs)
		for p := range theirs {
			if mine[p] {
				t.Errorf("%s, %s: memory is shared", name, kind)
				break
			}
		}
	}
}

func TestCopiesShareNothing(t *testing.T) {
	check(t, "Reader", fresh.Reader)
	check(t, "Wheel", fresh.Wheel)
	check(t, "Table", fresh.Table)
	check(t, "Lists", fresh.Lists)
	check(t, "Queue", fresh.Queue)
	check(t, "Ledger", fresh.Ledger)
	check(t, "Desk", fresh.Desk)
	check(t, "Engine", fresh.Engine)
	check(t, "Wire", fresh.Wire)
	check(t, "World", fresh.World)
}
