package net_test

import (
	"math"
	"reflect"
	"slices"
	"testing"

	"raceway/net"
)

// parcel is a thing with a list in it.
type parcel struct {
	Name string
	List []int
}

// Things that bags are filled with: of each kind seven, some of them alike, and the zero one.
var (
	numbers = []int{5, -3, 0, 5, math.MaxInt, math.MinInt, 7}
	texts   = []string{"a", "", "bc", "a", "\x00\xff", "longer than that", "d"}
	parcels = []parcel{{"a", []int{1, 2}}, {}, {"b", nil}, {"a", []int{1, 2}}, {"", []int{3}}, {"c", []int{0, 0, 0}}, {"d", []int{9}}}
)

// strangePlaces are none in any bag.
var strangePlaces = []int{-1, -2, -7, math.MinInt, math.MinInt + 1, 1000, 1 << 32, math.MaxInt - 1, math.MaxInt}

// bagOf has things that came in by one call.
func bagOf[T any](l ...T) *net.Bag[T] {
	b := &net.Bag[T]{}
	b.Put(l...)
	return b
}

func same(a, b any) bool { return reflect.DeepEqual(a, b) }

// sameList takes nil and a list without elements for the same.
func sameList[T any](a, b []T) bool {
	return len(a) == 0 && len(b) == 0 || same(a, b)
}

// wantBag holds what Len, All and Get tell against what ought to be in a bag.
func wantBag[T any](t *testing.T, name string, b *net.Bag[T], want ...T) {
	t.Helper()
	if b.Len() != len(want) {
		t.Errorf("%s: %d are in it, not %d", name, b.Len(), len(want))
	}
	var got []T
	for i, x := range b.All() {
		if i != len(got) {
			t.Errorf("%s: All tells the place %d behind %d things", name, i, len(got))
		}
		got = append(got, x)
	}
	if !sameList(got, want) {
		t.Errorf("%s: All tells %v, not %v", name, got, want)
	}
	for i, x := range want {
		if y, ok := b.Get(i); !ok || !same(x, y) {
			t.Errorf("%s: Get(%d) tells %v and %v, not %v", name, i, y, ok, x)
		}
	}
	for _, i := range append([]int{len(want), len(want) + 1}, strangePlaces...) {
		wantNone(t, name, b.Get, i)
	}
}

// wantNone asks Get or Take at a place where there is none.
func wantNone[T any](t *testing.T, name string, call func(int) (T, bool), i int) {
	t.Helper()
	var zero T
	if x, ok := call(i); ok || !same(x, zero) {
		t.Errorf("%s: at %d it tells %v and %v", name, i, x, ok)
	}
}

// wantTake takes one out that is there.
func wantTake[T any](t *testing.T, name string, b *net.Bag[T], i int, want T) {
	t.Helper()
	if x, ok := b.Take(i); !ok || !same(x, want) {
		t.Errorf("%s: Take(%d) tells %v and %v, not %v", name, i, x, ok, want)
	}
}

// without is a list but for one.
func without[T any](l []T, i int) []T {
	return slices.Delete(slices.Clone(l), i, i+1)
}
