package tests

import (
	"maps"
	"math"
	"math/rand"
	"reflect"
	"slices"
	"strings"
	"sync"
	"testing"
)

// call is one of a function, with what it answered first.
type call struct {
	name string
	f    reflect.Value
	args []reflect.Value
	said string
}

func (c call) answer() string { return writtenAll(c.f.Call(c.args), false) }

// someCalls has up to n of each function, in an order that is always the same.
func someCalls(t *testing.T, r *rand.Rand, n int) []call {
	t.Helper()
	all := everyFunction()
	var calls []call
	for _, name := range slices.Sorted(maps.Keys(all)) {
		f := reflect.ValueOf(all[name])
		of := choices(t, f)
		for range n {
			var args []reflect.Value
			for _, values := range of {
				args = append(args, roomy(values[r.Intn(len(values))]))
			}
			calls = append(calls, call{name: name, f: f, args: args})
		}
	}
	return calls
}

// TestPromise16 asks all functions in one order, in others, and from more places
// at once, each time with the same memory as arguments. TestConventions looks at
// each call by itself.
func TestPromise16(t *testing.T) {
	r := rand.New(rand.NewSource(16))
	calls := someCalls(t, r, 60)
	given := make([]string, len(calls))
	for i := range calls {
		given[i] = writtenAll(calls[i].args, true)
		calls[i].said = calls[i].answer()
	}
	var all sync.WaitGroup
	for range 8 {
		order := r.Perm(len(calls))
		all.Go(func() {
			for _, i := range order {
				if got := calls[i].answer(); got != calls[i].said {
					t.Errorf("%s of %.500s answers\n%.500s, and was\n%.500s", calls[i].name, given[i], got, calls[i].said)
				}
			}
		})
	}
	all.Wait()
	for i, c := range calls {
		if writtenAll(c.args, true) != given[i] {
			t.Errorf("%s writes into an argument: %.500s", c.name, given[i])
		}
	}
}

// listPlaces are the pairs of places at which f has lists of one type.
func listPlaces(f reflect.Type) [][2]int {
	var l [][2]int
	for i := range f.NumIn() {
		for j := range i {
			if f.In(i) == f.In(j) && f.In(i).Kind() == reflect.Slice {
				l = append(l, [2]int{j, i})
			}
		}
	}
	return l
}

// checkOneList calls f with copies of v at two places, and then with one v.
func checkOneList(t *testing.T, name string, f reflect.Value, args []reflect.Value, at [2]int, v reflect.Value) {
	t.Helper()
	args = slices.Clone(args)
	args[at[0]], args[at[1]] = roomy(v), roomy(v)
	want := writtenAll(f.Call(args), false)
	args[at[1]] = args[at[0]]
	before := writtenAll(args, true)
	out := f.Call(args)
	if got := writtenAll(out, false); got != want {
		t.Fatalf("%s of one list at two places: %.500s: %.500s, not %.500s", name, before, got, want)
	}
	if writtenAll(args, true) != before || anyShared(stretches(out), stretches(args)) {
		t.Fatalf("%s writes into a list at two places, or answers with it: %.500s", name, before)
	}
}

// TestOneListAtTwoPlaces gives the same memory for two arguments.
func TestOneListAtTwoPlaces(t *testing.T) {
	asked := 0
	for name, f := range everyFunction() {
		f := reflect.ValueOf(f)
		places := listPlaces(f.Type())
		if len(places) == 0 {
			continue
		}
		of := choices(t, f)
		var args []reflect.Value
		for _, values := range of {
			args = append(args, values[len(values)/2])
		}
		for _, at := range places {
			for _, v := range of[at[0]] {
				checkOneList(t, name, f, args, at, v)
				asked++
			}
		}
	}
	if asked < 100 {
		t.Error(asked)
	}
}

// spots are all places in v at which something can be changed.
func spots(v reflect.Value) []reflect.Value {
	l := []reflect.Value{v}
	switch v.Kind() {
	case reflect.Slice:
		for i := range v.Len() {
			l = append(l, spots(v.Index(i))...)
		}
	case reflect.Struct:
		l = nil
		for i := range v.NumField() {
			l = append(l, spots(v.Field(i))...)
		}
	}
	return l
}

// bendNumber takes numbers beside the one there was, and those at the ends.
func bendNumber(r *rand.Rand, n int64) int64 {
	near := []int64{n - 1, n + 1, -n, n << 32, n + 1<<32, 0, 1, 1000, 1000000, math.MaxInt64, math.MinInt64, math.MaxInt64 - 1, math.MinInt64 + 1, math.MaxInt32 + 1, math.MaxUint32}
	return near[r.Intn(len(near))]
}

func bendText(r *rand.Rand, s string) string {
	at := r.Intn(len(s) + 1)
	other := []string{"", "a", "=", " ", "\n", "\x00", "\xff", "é", "toolong", "999999999999", "-", "p1", "s0", "s1", strings.Repeat("a", 101)}[r.Intn(15)]
	switch r.Intn(4) {
	case 0:
		return other
	case 1:
		return s[:at] + other + s[at:]
	case 2:
		return s[:at]
	}
	return s[at:]
}

// bendList leaves one out, has one twice, changes two, or has more, right or
// not. The list is in memory of its own.
func bendList(r *rand.Rand, v reflect.Value) {
	n := v.Len()
	if n == 0 {
		v.Set(reflect.MakeSlice(v.Type(), 1+r.Intn(3), 3))
		return
	}
	i, j := r.Intn(n), r.Intn(n)
	switch r.Intn(6) {
	case 0:
		v.SetLen(i)
	case 1:
		v.Set(reflect.AppendSlice(v.Slice3(0, i, i), v.Slice(i+1, n)))
	case 2:
		v.Set(reflect.Append(v.Slice3(0, n, n), v.Index(i)))
	case 3:
		v.Set(reflect.Append(v.Slice3(0, n, n), reflect.Zero(v.Type().Elem())))
	case 4:
		reflect.Swapper(v.Interface())(i, j)
	default:
		v.Set(reflect.AppendSlice(v.Slice3(0, n, n), v))
	}
}

func bendSpot(r *rand.Rand, v reflect.Value) {
	switch v.Kind() {
	case reflect.Int64:
		v.SetInt(bendNumber(r, v.Int()))
	case reflect.String:
		v.SetString(bendText(r, v.String()))
	case reflect.Bool:
		v.SetBool(!v.Bool())
	case reflect.Slice:
		bendList(r, v)
	default:
		panic("no way to bend " + v.Kind().String())
	}
}

// TestEveryFunctionAtBentArguments would stop at a panic, or not end: each time a
// thing or more of the arguments is another one than it was.
func TestEveryFunctionAtBentArguments(t *testing.T) {
	r := rand.New(rand.NewSource(161))
	for _, c := range someCalls(t, r, 400) {
		if len(c.args) == 0 {
			continue
		}
		for range 1 + r.Intn(3) {
			at := spots(c.args[r.Intn(len(c.args))])
			bendSpot(r, at[r.Intn(len(at))])
		}
		checkCall(t, c.name, c.f, c.args)
	}
}
