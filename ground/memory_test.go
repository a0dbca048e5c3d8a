package ground_test

import (
	"math/rand"
	"reflect"
	"testing"

	"helmsman/api"
)

// spare returns a copy of a value in which each slice has spare capacity for a further element, which is a copy of the first one if there is one.
func spare(v reflect.Value) reflect.Value {
	c := reflect.New(v.Type()).Elem()
	c.Set(v)
	switch v.Kind() {
	case reflect.Struct:
		for i := range v.NumField() {
			c.Field(i).Set(spare(v.Field(i)))
		}
	case reflect.Slice:
		n := v.Len()
		l := reflect.MakeSlice(v.Type(), n+1, n+1)
		for i := range n {
			l.Index(i).Set(spare(v.Index(i)))
		}
		if n > 0 {
			l.Index(n).Set(spare(v.Index(0)))
		}
		c.Set(l.Slice(0, n))
	}
	return c
}

// eachSlice calls visit with each slice in a value, extended to its capacity.
func eachSlice(v reflect.Value, visit func(l reflect.Value)) {
	switch v.Kind() {
	case reflect.Struct:
		for i := range v.NumField() {
			eachSlice(v.Field(i), visit)
		}
	case reflect.Slice:
		all := v.Slice(0, v.Cap())
		visit(all)
		for i := range all.Len() {
			eachSlice(all.Index(i), visit)
		}
	}
}

// contents returns copies of everything that the slices in a value hold, with their spare capacity.
func contents(v reflect.Value) []any {
	var l []any
	eachSlice(v, func(s reflect.Value) {
		c := reflect.MakeSlice(s.Type(), s.Len(), s.Len())
		reflect.Copy(c, s)
		l = append(l, c.Interface())
	})
	return l
}

// addresses returns the address of each element of the slices in a value, with their spare capacity. Slices that share memory have a common one.
func addresses(v reflect.Value) []uintptr {
	var l []uintptr
	eachSlice(v, func(s reflect.Value) {
		for i := range s.Len() {
			l = append(l, s.Index(i).Addr().Pointer())
		}
	})
	return l
}

// TestMemory covers Z4: arguments and their spare capacity are not modified, and results share no memory with them or with each other.
func TestMemory(t *testing.T) {
	c := chooser{rand.New(rand.NewSource(7))}
	domains := []api.Domain{{}, delivery(t)}
	for _, change := range changes {
		d := delivery(t)
		change.apply(&d)
		domains = append(domains, d)
	}
	for range 300 {
		domains = append(domains, c.domain())
	}
	for _, d := range domains {
		argument := spare(reflect.ValueOf(d))
		before := contents(argument)
		owner := map[uintptr]string{}
		claim := func(name string, v reflect.Value) {
			for _, a := range addresses(v) {
				if other := owner[a]; other != "" {
					t.Errorf("%s and %s share memory for %v", name, other, d)
				}
				owner[a] = name
			}
		}
		claim("the domain", argument)
		var results []any
		for _, f := range append(functions, functions...) {
			result, _, _, _, _ := f.run(argument.Interface().(api.Domain))
			// Results that are kept in use do not get the same memory one after the other.
			results = append(results, result)
			claim("a result of "+f.name, reflect.ValueOf(result))
		}
		for i, f := range functions {
			if !reflect.DeepEqual(results[i], results[i+len(functions)]) {
				t.Errorf("%s returns different results for %v", f.name, d)
			}
		}
		if !reflect.DeepEqual(contents(argument), before) {
			t.Errorf("the argument is now %v, was %v", argument, d)
		}
	}
}
