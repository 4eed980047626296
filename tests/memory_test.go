package tests

import (
	"cmp"
	"reflect"
	"slices"
	"testing"
)

// same holds two values of any kind against each other; the empty list and the nil list are the same.
func same(a any, b any) bool {
	return sameValues(reflect.ValueOf(a), reflect.ValueOf(b))
}

// plainTypes are those that isPlain has been asked of.
var plainTypes = map[reflect.Type]bool{}

// isPlain says whether values of a type have no lists, so that nothing of them needs to be looked into.
func isPlain(t reflect.Type) bool {
	plain, known := plainTypes[t]
	if !known {
		plain = looksPlain(t)
		plainTypes[t] = plain
	}
	return plain
}

func looksPlain(t reflect.Type) bool {
	switch t.Kind() {
	case reflect.Slice, reflect.Map, reflect.Pointer, reflect.Interface, reflect.Func:
		return false
	case reflect.Array:
		return isPlain(t.Elem())
	case reflect.Struct:
		for i := range t.NumField() {
			if !isPlain(t.Field(i).Type) {
				return false
			}
		}
	}
	return true
}

func sameValues(a reflect.Value, b reflect.Value) bool {
	if a.IsValid() != b.IsValid() || a.IsValid() && a.Type() != b.Type() {
		return false
	}
	if a.IsValid() && isPlain(a.Type()) {
		return a.Equal(b)
	}
	switch a.Kind() {
	case reflect.Slice, reflect.Array:
		if a.Len() != b.Len() {
			return false
		}
		for i := range a.Len() {
			if !sameValues(a.Index(i), b.Index(i)) {
				return false
			}
		}
		return true
	case reflect.Struct:
		for i := range a.NumField() {
			if !sameValues(a.Field(i), b.Field(i)) {
				return false
			}
		}
		return true
	}
	return reflect.DeepEqual(a.Interface(), b.Interface())
}

// laid copies a value of any kind with all its lists, each with room behind its end that holds what its first one holds.
func laid[T any](x T, room int) T {
	return layValue(reflect.ValueOf(&x).Elem(), room).Interface().(T)
}

func layValue(v reflect.Value, room int) reflect.Value {
	switch v.Kind() {
	case reflect.Slice:
		if v.Len() == 0 {
			return v
		}
		out := reflect.MakeSlice(v.Type(), v.Len()+room, v.Len()+room)
		done := 0
		if isPlain(v.Type().Elem()) {
			done = reflect.Copy(out, v)
		}
		for i := done; i < out.Len(); i++ {
			out.Index(i).Set(layValue(v.Index(i%v.Len()), room))
		}
		return out.Slice(0, v.Len())
	case reflect.Struct:
		out := reflect.New(v.Type()).Elem()
		for i := range v.NumField() {
			out.Field(i).Set(layValue(v.Field(i), room))
		}
		return out
	}
	return v
}

// whole copies a value with all its lists as far as their memory reaches.
func whole(v reflect.Value) reflect.Value {
	switch v.Kind() {
	case reflect.Slice:
		all := v.Slice(0, v.Cap())
		out := reflect.MakeSlice(v.Type(), all.Len(), all.Len())
		if isPlain(v.Type().Elem()) {
			reflect.Copy(out, all)
			return out
		}
		for i := range all.Len() {
			out.Index(i).Set(whole(all.Index(i)))
		}
		return out
	case reflect.Struct:
		out := reflect.New(v.Type()).Elem()
		for i := range v.NumField() {
			out.Field(i).Set(whole(v.Field(i)))
		}
		return out
	}
	return v
}

// guarded lays an argument out with room behind its lists, and answers a question whether it is still what it was.
func guarded[T any](x T) (T, func() bool) {
	arg := laid(x, 2)
	was := whole(reflect.ValueOf(&arg).Elem())
	return arg, func() bool { return sameValues(whole(reflect.ValueOf(&arg).Elem()), was) }
}

type span struct {
	from, to uintptr
}

// spans tells the memory of all lists of a value.
func spans(v reflect.Value) []span {
	var out []span
	switch v.Kind() {
	case reflect.Slice:
		if size := uintptr(v.Cap()) * v.Type().Elem().Size(); size > 0 {
			out = append(out, span{v.Pointer(), v.Pointer() + size})
		}
		if isPlain(v.Type().Elem()) {
			return out
		}
		for i := range v.Len() {
			out = append(out, spans(v.Index(i))...)
		}
	case reflect.Struct:
		for i := range v.NumField() {
			out = append(out, spans(v.Field(i))...)
		}
	}
	return out
}

// checkOwn sees that no list of an answer lies in the memory of an argument or of another list of it.
func checkOwn(t *testing.T, answer any, args ...any) {
	t.Helper()
	all := spans(reflect.ValueOf(answer))
	for _, a := range args {
		all = append(all, spans(reflect.ValueOf(a))...)
	}
	slices.SortFunc(all, func(a, b span) int { return cmp.Compare(a.from, b.from) })
	for i := 1; i < len(all); i++ {
		if all[i].from < all[i-1].to {
			t.Fatalf("memory is shared: %+v", answer)
		}
	}
}
