package domain_test

import (
	"reflect"
	"testing"
	"unsafe"

	"helmsman/api"
	"helmsman/domain"
)

// marked returns a copy of a value that shares no memory with it. The spare capacity of each slice holds one element that is marked.
func marked(v reflect.Value) reflect.Value {
	c := reflect.New(v.Type()).Elem()
	switch v.Kind() {
	case reflect.Struct:
		for i := range v.NumField() {
			c.Field(i).Set(marked(v.Field(i)))
		}
	case reflect.Slice:
		l := reflect.MakeSlice(v.Type(), v.Len()+1, v.Len()+1)
		for i := range v.Len() {
			l.Index(i).Set(marked(v.Index(i)))
		}
		for _, n := range intFields(l.Index(v.Len())) {
			n.SetInt(77)
		}
		c.Set(l.Slice(0, v.Len()))
	default:
		c.Set(v)
	}
	return c
}

// whole returns a copy of a value with the spare capacity of its slices as further elements.
func whole(v reflect.Value) reflect.Value {
	c := reflect.New(v.Type()).Elem()
	switch v.Kind() {
	case reflect.Struct:
		for i := range v.NumField() {
			c.Field(i).Set(whole(v.Field(i)))
		}
	case reflect.Slice:
		l := reflect.MakeSlice(v.Type(), v.Cap(), v.Cap())
		for i := range v.Cap() {
			l.Index(i).Set(whole(v.Slice(0, v.Cap()).Index(i)))
		}
		c.Set(l)
	default:
		c.Set(v)
	}
	return c
}

// TestArgumentsAreNotModified covers Z4 for arguments and their spare capacity.
func TestArgumentsAreNotModified(t *testing.T) {
	for _, changes := range [][]change{validChanges, orderedChanges, furtherChanges} {
		for _, c := range changes {
			d := marked(reflect.ValueOf(c.of(delivery())))
			before := whole(d)
			domain.Validate(d.Interface().(api.Domain))
			domain.Print(d.Interface().(api.Domain))
			if after := whole(d); !reflect.DeepEqual(after.Interface(), before.Interface()) {
				t.Errorf("%s: the argument is now %v, was %v", c.name, after, before)
			}
		}
	}
}

// block is the memory from one address to another.
type block struct{ from, to uintptr }

// blocks returns the memory of the slices, with their spare capacity, and of the strings in a value.
func blocks(v reflect.Value) []block {
	var l []block
	switch v.Kind() {
	case reflect.String:
		l = append(l, blockOf(v.String()))
	case reflect.Struct:
		for i := range v.NumField() {
			l = append(l, blocks(v.Field(i))...)
		}
	case reflect.Slice:
		l = append(l, block{v.Pointer(), v.Pointer() + uintptr(v.Cap())*v.Type().Elem().Size()})
		for i := range v.Len() {
			l = append(l, blocks(v.Index(i))...)
		}
	}
	return l
}

func blockOf(s string) block {
	from := uintptr(unsafe.Pointer(unsafe.StringData(s)))
	return block{from, from + uintptr(len(s))}
}

// TestResultsShareNoMemory covers Z4 for results: each list and each name has memory of its own.
func TestResultsShareNoMemory(t *testing.T) {
	text := string([]byte(deliveryText))
	first, f := domain.Parse(text)
	second, g := domain.Parse(text)
	printed, h := domain.Print(first)
	again, i := domain.Print(first)
	for _, f := range []api.Fault{f, g, h, i} {
		if f != fault(0, 0) {
			t.Fatal(f)
		}
	}
	all := []block{blockOf(text), blockOf(printed), blockOf(again)}
	all = append(all, blocks(reflect.ValueOf(first))...)
	all = append(all, blocks(reflect.ValueOf(second))...)
	for i, a := range all {
		for k, b := range all[:i] {
			if a.from < b.to && b.from < a.to {
				t.Errorf("the blocks %d and %d share memory", k, i)
			}
		}
	}
}
