package copies_test

import (
	"reflect"
	"testing"

	"newswire/api"
	"newswire/copies"
)

// fill sets everything that v has to something, with one element in each slice.
func fill(v reflect.Value) {
	switch v.Kind() {
	case reflect.Int:
		v.SetInt(7)
	case reflect.String:
		v.SetString("x")
	case reflect.Bool:
		v.SetBool(true)
	case reflect.Slice:
		v.Set(reflect.MakeSlice(v.Type(), 1, 1))
		fill(v.Index(0))
	case reflect.Array:
		for i := range v.Len() {
			fill(v.Index(i))
		}
	case reflect.Struct:
		for i := range v.NumField() {
			fill(v.Field(i))
		}
	}
}

// spoil changes all numbers, strings and bools that v reaches through slices.
func spoil(v reflect.Value, within bool) {
	switch v.Kind() {
	case reflect.Int:
		if within {
			v.SetInt(8)
		}
	case reflect.String:
		if within {
			v.SetString("y")
		}
	case reflect.Slice, reflect.Array:
		for i := range v.Len() {
			spoil(v.Index(i), within || v.Kind() == reflect.Slice)
		}
	case reflect.Struct:
		for i := range v.NumField() {
			spoil(v.Field(i), within)
		}
	}
}

// check copies a value of which all parts are set, and spoils the copy.
func check[T any](t *testing.T, copied func(T) T) {
	t.Helper()
	var x, same T
	fill(reflect.ValueOf(&x).Elem())
	fill(reflect.ValueOf(&same).Elem())
	y := copied(x)
	if !reflect.DeepEqual(x, y) {
		t.Errorf("%T: the copy is another one", x)
	}
	spoil(reflect.ValueOf(&y).Elem(), false)
	if !reflect.DeepEqual(x, same) {
		t.Errorf("%T: the copy shares memory", x)
	}
}

func TestCopies(t *testing.T) {
	check(t, copies.Source)
	check(t, copies.Version)
	check(t, copies.Label)
	check(t, copies.Grammar)
	check(t, copies.Term)
	check(t, copies.Edit)
	check(t, copies.Family)
	check(t, copies.Relay)
	check(t, copies.Races)
	check(t, copies.Desk)
	check(t, copies.Service)
	check(t, copies.Setup)
	check(t, func(l []api.Label) []api.Label { return []api.Label{copies.Label(l[0])} })
}
