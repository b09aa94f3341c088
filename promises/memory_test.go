// Package promises tests P2 and P3, what all chapters promise of memory, of calls of any layer.
package promises

import (
	"fmt"
	"reflect"
	"testing"
)

// ask is a call: what it is handed, made anew each time, and what it answers.
type ask struct {
	name string
	args func() []any
	call func(a []any) []any
}

// roomy is the same value in new memory, each list with spare room behind it, in which something lies.
func roomy(v reflect.Value) reflect.Value {
	out := reflect.New(v.Type()).Elem()
	switch v.Kind() {
	case reflect.Struct:
		for i := range v.NumField() {
			out.Field(i).Set(roomy(v.Field(i)))
		}
	case reflect.Array:
		for i := range v.Len() {
			out.Index(i).Set(roomy(v.Index(i)))
		}
	case reflect.Slice:
		all := reflect.MakeSlice(v.Type(), v.Len()+2, v.Len()+2)
		for i := range v.Len() {
			all.Index(i).Set(roomy(v.Index(i)))
		}
		for i := v.Len(); i < all.Len(); i++ {
			spoil(all.Index(i))
		}
		out.Set(all.Slice(0, v.Len()))
	default:
		out.Set(v)
	}
	return out
}

// spoil writes over a value and all that it leads to, the spare room too.
func spoil(v reflect.Value) {
	switch v.Kind() {
	case reflect.Struct:
		for i := range v.NumField() {
			spoil(v.Field(i))
		}
	case reflect.Array:
		for i := range v.Len() {
			spoil(v.Index(i))
		}
	case reflect.Slice:
		all := v.Slice(0, v.Cap())
		for i := range all.Len() {
			spoil(all.Index(i))
		}
	case reflect.Int:
		v.SetInt(-77)
	case reflect.Uint8:
		v.SetUint(0xee)
	case reflect.Bool:
		v.SetBool(!v.Bool())
	}
}

// text tells a value; with room, the spare room behind lists too.
func text(v reflect.Value, room bool) string {
	out := ""
	switch v.Kind() {
	case reflect.Struct:
		for i := range v.NumField() {
			out += text(v.Field(i), room) + " "
		}
	case reflect.Slice, reflect.Array:
		l := v
		if room && v.Kind() == reflect.Slice {
			l = v.Slice(0, v.Cap())
		}
		for i := range l.Len() {
			out += text(l.Index(i), room) + " "
		}
		out = fmt.Sprint(v.Len(), "[", out, "]")
	default:
		out = fmt.Sprint(v.Interface())
	}
	return out
}

type span struct{ from, to uintptr }

// spans are the places of all lists, their spare room too.
func spans(v reflect.Value) []span {
	var out []span
	switch v.Kind() {
	case reflect.Struct:
		for i := range v.NumField() {
			out = append(out, spans(v.Field(i))...)
		}
	case reflect.Array:
		for i := range v.Len() {
			out = append(out, spans(v.Index(i))...)
		}
	case reflect.Slice:
		from := v.Pointer()
		if size := uintptr(v.Cap()) * v.Type().Elem().Size(); size > 0 {
			out = append(out, span{from, from + size})
		}
		for i := range v.Len() {
			out = append(out, spans(v.Index(i))...)
		}
	}
	return out
}

// meet tells whether two of them lie in one place.
func meet(l []span) bool {
	for i, a := range l {
		for _, b := range l[:i] {
			if a.from < b.to && b.from < a.to {
				return true
			}
		}
	}
	return false
}

// boxes are pointers to such values, so that they may be changed; opened is what they have.
func boxes(l []any) []reflect.Value {
	var out []reflect.Value
	for _, v := range l {
		box := reflect.New(reflect.TypeOf(v))
		box.Elem().Set(reflect.ValueOf(v))
		out = append(out, box.Elem())
	}
	return out
}

func opened(l []reflect.Value) []any {
	var out []any
	for _, v := range l {
		out = append(out, v.Interface())
	}
	return out
}

func texts(l []reflect.Value, room bool) string {
	out := ""
	for _, v := range l {
		out += text(v, room) + "; "
	}
	return out
}

func places(l []reflect.Value) []span {
	var out []span
	for _, v := range l {
		out = append(out, spans(v)...)
	}
	return out
}

func handed(k ask) []reflect.Value {
	l := boxes(k.args())
	for i := range l {
		l[i].Set(roomy(l[i]))
	}
	return l
}

func spoilAll(l []reflect.Value) {
	for _, v := range l {
		spoil(v)
	}
}

func checkMemory(t *testing.T, k ask) {
	args := handed(k)
	was := texts(args, true)
	first := boxes(k.call(opened(args)))
	want := texts(first, false)
	if texts(args, true) != was {
		t.Errorf("%s: what was handed in has changed: %s, and it was %s", k.name, texts(args, true), was)
	}
	second := boxes(k.call(opened(args)))
	if got := texts(second, false); got != want {
		t.Errorf("%s: the second time it is %s, and was %s", k.name, got, want)
	}
	if meet(places(first)) {
		t.Errorf("%s: two lists of an answer share memory", k.name)
	}
	if meet(append(onlyOnce(places(args)), append(places(first), places(second)...)...)) {
		t.Errorf("%s: an answer shares memory with what was handed in, or with another answer", k.name)
	}
	spoilAll(args)
	if got := texts(first, false); got != want {
		t.Errorf("%s: a later change of what was handed in is seen: %s, and it was %s", k.name, got, want)
	}
	spoilAll(first)
	if got := texts(boxes(k.call(opened(handed(k)))), false); got != want {
		t.Errorf("%s: the last time it is %s, and was %s", k.name, got, want)
	}
}

// onlyOnce leaves out places that were there already: what is handed in may share memory.
func onlyOnce(l []span) []span {
	var out []span
	for _, s := range l {
		if !meet(append(out[:len(out):len(out)], s)) {
			out = append(out, s)
		}
	}
	return out
}
