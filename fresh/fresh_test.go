package fresh

import (
	"reflect"
	"testing"

	"canvass/api"
)

// fill gives every field that can be reached a value other than zero, and every list two elements and spare capacity.
func fill(v reflect.Value, depth int) {
	switch v.Kind() {
	case reflect.Int:
		v.SetInt(7)
	case reflect.Bool:
		v.SetBool(true)
	case reflect.String:
		v.SetString("text")
	case reflect.Struct:
		for i := range v.NumField() {
			fill(v.Field(i), depth)
		}
	case reflect.Slice:
		if depth == 0 {
			return
		}
		v.Set(reflect.MakeSlice(v.Type(), 2, 5))
		for i := range v.Len() {
			fill(v.Index(i), depth-1)
		}
	}
}

// memory gathers where the lists begin that can be reached.
func memory(v reflect.Value, at map[uintptr]int) {
	switch v.Kind() {
	case reflect.Struct:
		for i := range v.NumField() {
			memory(v.Field(i), at)
		}
	case reflect.Slice:
		if v.Cap() > 0 {
			at[v.Pointer()]++
		}
		for i := range v.Len() {
			memory(v.Index(i), at)
		}
	}
}

// holdCopy copies something in which every list has elements, and one in which no list has any.
func holdCopy[T any](t *testing.T, name string, copyOf func(T) T) {
	var filled, zero T
	fill(reflect.ValueOf(&filled).Elem(), 5)
	if got := copyOf(zero); !reflect.DeepEqual(got, zero) {
		t.Error(name, "of zero is", got)
	}
	got := copyOf(filled)
	if !reflect.DeepEqual(got, filled) {
		t.Error(name, "is no copy")
	}
	at := map[uintptr]int{}
	memory(reflect.ValueOf(filled), at)
	memory(reflect.ValueOf(got), at)
	for _, times := range at {
		if times > 1 {
			t.Fatal(name, "shares memory")
		}
	}
}

func TestCopies(t *testing.T) {
	holdCopy(t, "Value", Value)
	holdCopy(t, "Expr", Expr)
	holdCopy(t, "Cell", Cell)
	holdCopy(t, "Nest", Nest)
	holdCopy(t, "Bound", Bound)
	holdCopy(t, "Rows", Rows)
	holdCopy(t, "Scene", Scene)
	holdCopy(t, "Form", Form)
	holdCopy(t, "Options", Options)
	holdCopy(t, "Item", Item)
	holdCopy(t, "Answer", Answer)
	holdCopy(t, "Rule", Rule)
	holdCopy(t, "Key", Key)
	holdCopy(t, "Given", Given)
	holdCopy(t, "Asked", Asked)
	holdCopy(t, "Route", Route)
	holdCopy(t, "Step", Step)
	holdCopy(t, "Event", Event)
	holdCopy(t, "List", func(l []api.Value) []api.Value { return List(l, Value) })
}
