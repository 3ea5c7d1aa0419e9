package net_test

import (
	"fmt"
	"math/rand/v2"
	"slices"
	"testing"

	"raceway/net"
)

// run holds a bag against a plain list of what ought to be in it.
type run[T any] struct {
	t    *testing.T
	r    *rand.Rand
	make func(int) T
	made int
	bag  net.Bag[T]
	list []T
}

// fresh makes things; now and then one that was made before, so that some are alike.
func (r *run[T]) fresh(n int) []T {
	var l []T
	for range n {
		r.made++
		l = append(l, r.make(r.made-r.r.IntN(3)))
	}
	return l
}

// place tells one that mostly is in the bag.
func (r *run[T]) place() int {
	switch r.r.IntN(8) {
	case 0:
		return len(r.list)
	case 1:
		return -1 - r.r.IntN(3)
	case 2:
		return strangePlaces[r.r.IntN(len(strangePlaces))]
	}
	return net.At(int(r.r.Uint64()), len(r.list))
}

func (r *run[T]) has(i int) bool { return i >= 0 && i < len(r.list) }

func (r *run[T]) put(n int) {
	l := r.fresh(n)
	r.list = append(r.list, l...)
	r.bag.Put(l...)
	for i := range l {
		l[i] = r.make(-1)
	}
}

func (r *run[T]) take(i int) {
	if !r.has(i) {
		wantNone(r.t, "Take", r.bag.Take, i)
		return
	}
	wantTake(r.t, "the run", &r.bag, i, r.list[i])
	r.list = slices.Delete(r.list, i, i+1)
}

func (r *run[T]) double(i int) {
	if r.bag.Double(i) != r.has(i) {
		r.t.Errorf("Double(%d) of %d tells %v", i, len(r.list), !r.has(i))
	}
	if r.has(i) {
		r.list = append(r.list, r.list[i])
	}
}

// drop drops about one of so many.
func (r *run[T]) drop(of int) {
	var goes []bool
	var left, asked []T
	n := 0
	for _, x := range r.list {
		goes = append(goes, r.r.IntN(of) == 0)
		if goes[len(goes)-1] {
			n++
		} else {
			left = append(left, x)
		}
	}
	got := r.bag.Drop(func(x T) bool {
		asked = append(asked, x)
		return goes[len(asked)-1]
	})
	if got != n || !sameList(asked, r.list) {
		r.t.Errorf("Drop tells %d, not %d, and asks of %v", got, n, asked)
	}
	r.list = left
}

// through goes through the bag, and does something on the way.
func (r *run[T]) through() {
	was := slices.Clone(r.list)
	end, change := r.r.IntN(len(was)+2), r.r.IntN(len(was)+2)
	n := 0
	for i, x := range r.bag.All() {
		if i != n || i >= len(was) || !same(x, was[i]) {
			r.t.Fatalf("All tells %v at %d, behind %d of %v", x, i, n, was)
		}
		n++
		if i == change {
			r.step(r.r.IntN(13))
		}
		if i == end {
			break
		}
	}
	if n != min(end+1, len(was)) {
		r.t.Errorf("All tells %d of %d, ended at %d", n, len(was), end)
	}
}

// step does one of 14 deeds. The last one goes through the bag, and does one of the others.
func (r *run[T]) step(deed int) {
	switch {
	case deed < 3:
		r.put(1)
	case deed == 3:
		r.put(r.r.IntN(5))
	case deed == 4:
		r.put(0)
	case deed < 8:
		r.take(r.place())
	case deed < 10:
		r.double(r.place())
	case deed < 12:
		r.drop(10)
	case deed == 12:
		r.drop(1 + r.r.IntN(4))
	default:
		r.through()
	}
}

func testRun[T any](t *testing.T, name string, seed uint64, thing func(int) T) {
	t.Helper()
	r := &run[T]{t: t, r: rand.New(rand.NewPCG(seed, 16)), make: thing}
	for i := range 3000 {
		r.step(r.r.IntN(14))
		if len(r.list) > 60 {
			r.drop(2)
		}
		wantBag(t, fmt.Sprint(name, ", step ", i), &r.bag, r.list...)
		if t.Failed() {
			t.Fatalf("%s: wrong at step %d of the run %d", name, i, seed)
		}
	}
}

// P16.4
func TestRuns(t *testing.T) {
	for seed := range uint64(4) {
		testRun(t, "numbers", seed, func(i int) int { return i })
		testRun(t, "texts", seed, func(i int) string { return fmt.Sprint("thing ", i) })
		testRun(t, "structs", seed, func(i int) parcel { return parcel{fmt.Sprint(i), []int{i, i + 1}} })
	}
}

// P16.4: what was put in is in it as often as it was put in and doubled, less what was taken and dropped.
func TestCounts(t *testing.T) {
	const kinds = 7
	r := rand.New(rand.NewPCG(4, 16))
	var b net.Bag[int]
	var want [kinds]int
	for range 5000 {
		x, i := r.IntN(kinds), r.IntN(b.Len()+1)
		switch r.IntN(6) {
		case 0, 1:
			b.Put(x, x, 0)
			want[x] += 2
			want[0]++
		case 2, 3:
			if y, ok := b.Take(i); ok {
				want[y]--
			}
		case 4:
			if y, ok := b.Get(i); b.Double(i) != ok {
				t.Errorf("Double(%d) tells %v", i, !ok)
			} else if ok {
				want[y]++
			}
		case 5:
			if r.IntN(20) > 0 {
				break
			}
			if n := b.Drop(func(y int) bool { return y == x }); n != want[x] {
				t.Errorf("Drop tells %d, not %d", n, want[x])
			}
			want[x] = 0
		}
		var got [kinds]int
		for _, y := range b.All() {
			got[y]++
		}
		if got != want {
			t.Fatalf("in it are %v, not %v", got, want)
		}
	}
}

// P16.4: many things, in their order.
func TestMany(t *testing.T) {
	var b net.Bag[int]
	const many = 200000
	for i := range many {
		b.Put(i)
	}
	if n := b.Drop(func(x int) bool { return x%4 != 0 }); n != many/4*3 {
		t.Errorf("Drop tells %d", n)
	}
	for i, x := range b.All() {
		if x != 4*i {
			t.Fatalf("%d at %d", x, i)
		}
	}
	wantTake(t, "many", &b, many/8, many/2)
	if x, ok := b.Get(many / 8); !ok || x != many/2+4 || b.Len() != many/4-1 {
		t.Errorf("behind Take: %d of %d", x, b.Len())
	}
}
