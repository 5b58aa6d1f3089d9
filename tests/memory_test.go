package tests

import (
	"reflect"
	"testing"
)

// laid is a deep copy of v whose slices have that much room behind their
// ends; what lies in the room is not zero.
func laid(v reflect.Value, room int) reflect.Value {
	out := reflect.New(v.Type()).Elem()
	switch v.Kind() {
	case reflect.Slice:
		if v.IsNil() {
			return out
		}
		out.Set(reflect.MakeSlice(v.Type(), v.Len()+room, v.Len()+room))
		for i := range v.Len() {
			out.Index(i).Set(laid(v.Index(i), room))
		}
		for i := range room {
			scramble(out.Index(v.Len() + i))
		}
		return out.Slice3(0, v.Len(), v.Len()+room)
	case reflect.Array:
		for i := range v.Len() {
			out.Index(i).Set(laid(v.Index(i), room))
		}
	case reflect.Struct:
		for i := range v.NumField() {
			out.Field(i).Set(laid(v.Field(i), room))
		}
	default:
		out.Set(v)
	}
	return out
}

// scramble changes all that v has, in the slices also the room behind them.
func scramble(v reflect.Value) {
	switch v.Kind() {
	case reflect.Slice:
		full := v.Slice3(0, v.Cap(), v.Cap())
		for i := range full.Len() {
			scramble(full.Index(i))
		}
	case reflect.Array:
		for i := range v.Len() {
			scramble(v.Index(i))
		}
	case reflect.Struct:
		for i := range v.NumField() {
			scramble(v.Field(i))
		}
	case reflect.String:
		v.SetString(v.String() + "~")
	case reflect.Bool:
		v.SetBool(!v.Bool())
	case reflect.Uint8:
		v.SetUint(v.Uint() ^ 77)
	default:
		v.SetInt(v.Int() ^ 77)
	}
}

// whole copies all that is there, the room behind the slices too.
func whole(v reflect.Value) any {
	var parts []any
	switch v.Kind() {
	case reflect.Slice:
		parts = append(parts, v.IsNil(), v.Len())
		full := v.Slice3(0, v.Cap(), v.Cap())
		for i := range full.Len() {
			parts = append(parts, whole(full.Index(i)))
		}
	case reflect.Array:
		for i := range v.Len() {
			parts = append(parts, whole(v.Index(i)))
		}
	case reflect.Struct:
		for i := range v.NumField() {
			parts = append(parts, whole(v.Field(i)))
		}
	default:
		return v.Interface()
	}
	return parts
}

// stretchOf is a slice's memory, the room behind its end too.
type stretchOf struct {
	from, to uintptr
}

func memoryOf(v reflect.Value) []stretchOf {
	var list []stretchOf
	switch v.Kind() {
	case reflect.Slice:
		if size := uintptr(v.Cap()) * v.Type().Elem().Size(); size > 0 {
			list = append(list, stretchOf{v.Pointer(), v.Pointer() + size})
		}
		for i := range v.Len() {
			list = append(list, memoryOf(v.Index(i))...)
		}
	case reflect.Array:
		for i := range v.Len() {
			list = append(list, memoryOf(v.Index(i))...)
		}
	case reflect.Struct:
		for i := range v.NumField() {
			list = append(list, memoryOf(v.Field(i))...)
		}
	}
	return list
}

func overlap(a, b []stretchOf) bool {
	for _, x := range a {
		for _, y := range b {
			if x.from < y.to && y.from < x.to {
				return true
			}
		}
	}
	return false
}

// arguments are those of a call, laid out in memory of their own.
type arguments []reflect.Value

func argumentsOf(room int, args []any) arguments {
	var list arguments
	for _, arg := range args {
		list = append(list, laid(reflect.ValueOf(arg), room))
	}
	return list
}

func (g arguments) whole() any {
	var list []any
	for _, v := range g {
		list = append(list, whole(v))
	}
	return list
}

func (g arguments) memory() []stretchOf {
	var list []stretchOf
	for _, v := range g {
		list = append(list, memoryOf(v)...)
	}
	return list
}

// answerOf may be written into, which what a call tells may not.
func answerOf(f any, g arguments) reflect.Value {
	told := reflect.ValueOf(f).Call(g)[0]
	out := reflect.New(told.Type()).Elem()
	out.Set(told)
	return out
}

// checkPure asks promise 1 of a call: it answers, changes no argument, hangs
// on the arguments alone, and what it answers is new memory.
func checkPure(t *testing.T, name string, f any, args ...any) {
	t.Helper()
	g := argumentsOf(3, args)
	before := g.whole()
	first, second := answerOf(f, g), answerOf(f, g)
	if !reflect.DeepEqual(g.whole(), before) {
		t.Fatalf("%s(%v) changed an argument", name, args)
	}
	third := answerOf(f, argumentsOf(0, args))
	if !reflect.DeepEqual(first.Interface(), second.Interface()) || !reflect.DeepEqual(second.Interface(), third.Interface()) {
		t.Fatalf("%s(%v) answers %v, then %v, of the same elsewhere %v", name, args, first, second, third)
	}
	checkMemory(t, name, args, first, second, g)
	scramble(first)
	if !reflect.DeepEqual(g.whole(), before) {
		t.Fatalf("%s(%v): what is written into the answer changes an argument", name, args)
	}
	for _, v := range g {
		scramble(v)
	}
	if !reflect.DeepEqual(second.Interface(), third.Interface()) {
		t.Fatalf("%s(%v): two answers, or an answer and an argument, share memory: %v, %v", name, args, second, third)
	}
	if again := answerOf(f, argumentsOf(1, args)); !reflect.DeepEqual(third.Interface(), again.Interface()) {
		t.Fatalf("%s(%v) answers %v, then %v", name, args, third, again)
	}
}

// checkMemory asks that no two lists of an answer, of two answers, or of an
// answer and its arguments lie on one another.
func checkMemory(t *testing.T, name string, args []any, first, second reflect.Value, g arguments) {
	t.Helper()
	lists := memoryOf(first)
	for i := range lists {
		if overlap(lists[i:i+1], lists[i+1:]) {
			t.Fatalf("%s(%v): two lists of one answer share memory", name, args)
		}
	}
	if overlap(lists, g.memory()) {
		t.Fatalf("%s(%v): the answer shares memory with an argument", name, args)
	}
	if overlap(lists, memoryOf(second)) {
		t.Fatalf("%s(%v): two answers share memory", name, args)
	}
}

// keptAnswers are those of lists that lie in one memory. They are all kept, as
// the memory of one that is gone may come again.
type keptAnswers struct {
	lists   reflect.Value
	before  any
	answers []reflect.Value
}

func keptOf(lists any) *keptAnswers {
	v := reflect.ValueOf(lists)
	return &keptAnswers{lists: v, before: whole(v)}
}

// check asks that an answer is what it is of lists that lie elsewhere, that
// each of its lists is for itself, and that none of the others is changed.
func (k *keptAnswers) check(t *testing.T, name string, told, want any) {
	t.Helper()
	if !reflect.DeepEqual(told, want) {
		t.Errorf("%s: %+v, want %+v", name, told, want)
	}
	v := reflect.ValueOf(told)
	checkApart(t, v, k.lists)
	for _, other := range k.answers {
		if overlap(memoryOf(v), memoryOf(other)) {
			t.Errorf("%s: shares memory with another answer", name)
		}
	}
	k.answers = append(k.answers, v)
	if !reflect.DeepEqual(whole(k.lists), k.before) {
		t.Fatalf("%s: changed", name)
	}
}

// checkAsItWas asks that what is written into an answer is in no later one.
func checkAsItWas(t *testing.T, name string, call func() any) {
	t.Helper()
	first := call()
	told := reflect.New(reflect.TypeOf(first)).Elem()
	told.Set(reflect.ValueOf(first))
	want := call()
	scramble(told)
	if got := call(); !reflect.DeepEqual(got, want) {
		t.Errorf("%s: %+v, then %+v", name, want, got)
	}
}
