// Package rules tests the promises P1 and P2 of DOC.md for every function of every layer, by calling it with
// arbitrary arguments: it returns, modifies no argument, shares no memory with one, and answers the same again.
package rules

import (
	"fmt"
	"math/rand"
	"reflect"
	"testing"
	"time"

	"tabellion/api"
)

// call is a function of a layer: its name, itself, and what is checked of its results.
type call struct {
	name string
	fn   any
	how  int
}

// What may be checked of a call beside that it returns.
const (
	zeroes = 1 << iota // an error or a false comes with zero results
	shares             // the results may share memory that nobody writes to (stores)
)

const patience = 60 * time.Second

func rounds() int {
	if testing.Short() {
		return 100
	}
	return 400
}

func TestRules(t *testing.T) {
	for _, c := range calls() {
		t.Run(c.name, func(t *testing.T) {
			t.Parallel()
			r := rand.New(rand.NewSource(int64(len(c.name))))
			for i := 0; i < rounds(); i++ {
				checkCall(t, c, r)
				if t.Failed() {
					return
				}
			}
		})
	}
}

func checkCall(t *testing.T, c call, r *rand.Rand) {
	fn := reflect.ValueOf(c.fn)
	args := make([]reflect.Value, fn.Type().NumIn())
	for i := range args {
		args[i] = generate(r, fn.Type().In(i), 4)
	}
	before := copyAll(args)
	got, failed := run(fn, args)
	if failed != "" {
		t.Errorf("%s: %s: %s", c.name, failed, show(before))
		return
	}
	if !sameAll(args, before) {
		t.Errorf("%s modifies an argument: %s", c.name, show(before))
	}
	again, _ := run(fn, before)
	if !sameAll(got, again) {
		t.Errorf("%s answers differently the second time: %s: %s, %s", c.name, show(args), show(got), show(again))
	}
	if c.how&shares == 0 {
		checkMemory(t, c, args, got)
	}
	if c.how&zeroes != 0 {
		checkZero(t, c, args, got)
	}
}

// run calls a function and tells why it did not return, if it did not.
func run(fn reflect.Value, args []reflect.Value) (results []reflect.Value, failed string) {
	done := make(chan bool)
	go func() {
		defer close(done)
		defer func() {
			if e := recover(); e != nil {
				failed = fmt.Sprint("panic: ", e)
			}
		}()
		results = fn.Call(args)
	}()
	select {
	case <-done:
		return results, failed
	case <-time.After(patience):
		return nil, "does not return"
	}
}

func checkZero(t *testing.T, c call, args, got []reflect.Value) {
	last := got[len(got)-1]
	failed := last.Kind() == reflect.Bool && !last.Bool()
	if last.Type() == reflect.TypeOf(api.OK) {
		failed = last.Int() != 0
	}
	if !failed {
		return
	}
	for _, v := range got[:len(got)-1] {
		if !v.IsZero() && !(v.Kind() == reflect.Slice && v.Len() == 0) {
			t.Errorf("%s returns %s together with an error: %s", c.name, show(got), show(args))
		}
	}
}

// span is the memory of a list.
type span struct{ from, to uintptr }

// spans appends the memory of all lists within v.
func spans(l []span, v reflect.Value) []span {
	switch v.Kind() {
	case reflect.Slice:
		if v.Len() > 0 {
			at := v.Pointer()
			l = append(l, span{at, at + uintptr(v.Len())*v.Type().Elem().Size()})
		}
		if plain(v.Type().Elem()) {
			return l
		}
		for i := 0; i < v.Len(); i++ {
			l = spans(l, v.Index(i))
		}
	case reflect.Struct:
		for i := 0; i < v.NumField(); i++ {
			l = spans(l, v.Field(i))
		}
	}
	return l
}

func plain(t reflect.Type) bool {
	return t.Kind() == reflect.Int || t.Kind() == reflect.String || t.Kind() == reflect.Bool
}

func allSpans(l []reflect.Value) []span {
	var all []span
	for _, v := range l {
		all = spans(all, v)
	}
	return all
}

func checkMemory(t *testing.T, c call, args, got []reflect.Value) {
	mine := allSpans(got)
	theirs := allSpans(args)
	for i, a := range mine {
		for _, b := range theirs {
			if a.from < b.to && b.from < a.to {
				t.Errorf("%s: a result shares memory with an argument: %s", c.name, show(args))
				return
			}
		}
		for _, b := range mine[:i] {
			if a.from < b.to && b.from < a.to {
				t.Errorf("%s: two lists of a result share memory: %s", c.name, show(args))
				return
			}
		}
	}
}

func copyAll(l []reflect.Value) []reflect.Value {
	out := make([]reflect.Value, len(l))
	for i, v := range l {
		out[i] = deepCopy(v)
	}
	return out
}

func deepCopy(v reflect.Value) reflect.Value {
	out := reflect.New(v.Type()).Elem()
	switch v.Kind() {
	case reflect.Slice:
		if v.IsNil() {
			return out
		}
		out.Set(reflect.MakeSlice(v.Type(), v.Len(), v.Len()))
		for i := 0; i < v.Len(); i++ {
			out.Index(i).Set(deepCopy(v.Index(i)))
		}
	case reflect.Struct:
		for i := 0; i < v.NumField(); i++ {
			out.Field(i).Set(deepCopy(v.Field(i)))
		}
	default:
		out.Set(v)
	}
	return out
}

// sameAll compares values; functions are not compared.
func sameAll(a, b []reflect.Value) bool {
	for i := range a {
		if a[i].Kind() != reflect.Func && !reflect.DeepEqual(a[i].Interface(), b[i].Interface()) {
			return false
		}
	}
	return len(a) == len(b)
}

func show(l []reflect.Value) string {
	s := ""
	for _, v := range l {
		s += fmt.Sprintf("%#v; ", v.Interface())
	}
	if len(s) > 3000 {
		return s[:3000] + " .."
	}
	return s
}
