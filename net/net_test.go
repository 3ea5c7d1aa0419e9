package net_test

import (
	"fmt"
	"iter"
	"math"
	"math/big"
	"slices"
	"testing"

	"raceway/net"
)

// The chapter's example.
func TestExample(t *testing.T) {
	var b net.Bag[string]
	b.Put("a", "b", "c")
	wantTake(t, "the example", &b, 1, "b")
	if !b.Double(0) {
		t.Error("Double(0) tells false")
	}
	wantBag(t, "the example", &b, "a", "c", "a")
}

// P16.1
func TestPut(t *testing.T) {
	testPut(t, "numbers", numbers)
	testPut(t, "texts", texts)
	testPut(t, "structs", parcels)
	testPut(t, "nothings", make([]struct{}, 7))
	testPut(t, "lists", [][]int{{1}, nil, {2, 3}, {1}, {0}, nil, {4}})
	testPut(t, "interfaces", []any{1, nil, "a", []int{1}, parcels[0], 1, 2.5})
}

func testPut[T any](t *testing.T, name string, l []T) {
	t.Helper()
	var one, several net.Bag[T]
	wantBag(t, name+", none yet", &one)
	for i, x := range l {
		one.Put(x)
		wantBag(t, fmt.Sprint(name, ", one by one, ", i), &one, l[:i+1]...)
		one.Put()
		wantBag(t, fmt.Sprint(name, ", none, ", i), &one, l[:i+1]...)
	}
	for lo := range l {
		for hi := range l {
			if lo <= hi {
				several = net.Bag[T]{}
				several.Put(l[:lo]...)
				several.Put(l[lo:hi]...)
				several.Put(l[hi:]...)
				wantBag(t, fmt.Sprint(name, ", cut at ", lo, " and ", hi), &several, l...)
			}
		}
	}
	several.Put(l...)
	wantBag(t, name+", twice", &several, append(slices.Clone(l), l...)...)
}

// P16.1: a list may be changed behind the call, and what lies behind its length is nobody's.
func TestPutKeepsNoList(t *testing.T) {
	var b net.Bag[int]
	l := []int{1, 2, 3, 777, 778}
	b.Put(l[:3]...)
	b.Put(4)
	b.Double(0)
	if !slices.Equal(l, []int{1, 2, 3, 777, 778}) {
		t.Errorf("what was handed in is %v", l)
	}
	for i := range l {
		l[i] = 999
	}
	wantBag(t, "the list is written over", &b, 1, 2, 3, 4, 1)
	b.Put(l[:2]...)
	b.Take(0)
	b.Drop(func(x int) bool { return x == 3 })
	if !slices.Equal(l, []int{999, 999, 999, 999, 999}) {
		t.Errorf("what was handed in is %v", l)
	}
	l[0], l[1] = 5, 5
	wantBag(t, "the list is written over again", &b, 2, 4, 1, 999, 999)
}

// P16.1, P16.2: two bags have nothing to do with each other.
func TestTwoBags(t *testing.T) {
	a, b := bagOf(numbers...), bagOf(numbers...)
	a.Take(0)
	a.Put(1)
	a.Double(2)
	a.Drop(func(x int) bool { return x == 0 })
	wantBag(t, "the other one", b, numbers...)
}

// P16.1, P16.2: of nil nothing, 0, false.
func TestNil(t *testing.T) {
	var b *net.Bag[parcel]
	all := b.All()
	for range 2 {
		b.Put(parcels...)
		b.Put()
		wantBag(t, "nil", b)
		for _, i := range append([]int{0, 1}, strangePlaces...) {
			wantNone(t, "nil", b.Take, i)
			if b.Double(i) {
				t.Errorf("nil: Double(%d) tells true", i)
			}
		}
		for _, is := range []func(parcel) bool{nil, func(parcel) bool { t.Error("nil: it asks"); return true }} {
			if n := b.Drop(is); n != 0 {
				t.Errorf("nil: Drop tells %d", n)
			}
		}
		for range all {
			t.Error("nil: All tells something")
		}
	}
}

// P16.1, P16.2: the plain bag is empty, and may be filled; so is one from which all has gone.
func TestEmpty(t *testing.T) {
	taken, dropped := bagOf(parcels...), bagOf(parcels...)
	for range parcels {
		taken.Take(0)
	}
	dropped.Drop(func(parcel) bool { return true })
	for name, b := range map[string]*net.Bag[parcel]{"plain": {}, "new": new(net.Bag[parcel]), "all taken": taken, "all dropped": dropped} {
		wantBag(t, name, b)
		for _, i := range append([]int{0, 1, 6, 7}, strangePlaces...) {
			wantNone(t, name, b.Take, i)
			if b.Double(i) {
				t.Errorf("%s: Double(%d) tells true", name, i)
			}
		}
		if n := b.Drop(func(parcel) bool { t.Errorf("%s: it asks", name); return true }); n != 0 {
			t.Errorf("%s: Drop tells %d", name, n)
		}
		if n := b.Drop(nil); n != 0 {
			t.Errorf("%s: Drop(nil) tells %d", name, n)
		}
		b.Put()
		wantBag(t, name, b)
		b.Put(parcels...)
		wantBag(t, name+", filled", b, parcels...)
	}
}

// P16.2
func TestTake(t *testing.T) {
	testTake(t, "numbers", numbers)
	testTake(t, "texts", texts)
	testTake(t, "structs", parcels)
}

func testTake[T any](t *testing.T, name string, l []T) {
	t.Helper()
	for i, x := range l {
		b := bagOf(l...)
		wantTake(t, name, b, i, x)
		wantBag(t, fmt.Sprint(name, " without ", i), b, without(l, i)...)
		wantNone(t, name, b.Take, len(l)-1)
		b.Put(x)
		wantBag(t, fmt.Sprint(name, " without ", i, " and with it"), b, append(without(l, i), x)...)
	}
	b := bagOf(l...)
	for _, i := range append([]int{len(l), len(l) + 1}, strangePlaces...) {
		wantNone(t, name, b.Take, i)
		wantBag(t, fmt.Sprint(name, ", Take at ", i), b, l...)
	}
	for i := range l {
		wantTake(t, name+" from the first on", b, 0, l[i])
		wantBag(t, name+" from the first on", b, l[i+1:]...)
	}
	b.Put(l...)
	for i := len(l) - 1; i >= 0; i-- {
		wantTake(t, name+" from the last on", b, i, l[i])
		wantBag(t, name+" from the last on", b, l[:i]...)
	}
	b.Put(l[0])
	wantTake(t, name+", the only one", b, 0, l[0])
	wantBag(t, name+", the only one", b)
}

// P16.2
func TestDouble(t *testing.T) {
	testDouble(t, "numbers", numbers)
	testDouble(t, "texts", texts)
	testDouble(t, "structs", parcels)
}

func testDouble[T any](t *testing.T, name string, l []T) {
	t.Helper()
	for i, x := range l {
		b := bagOf(l...)
		for range 2 {
			if !b.Double(i) {
				t.Errorf("%s: Double(%d) tells false", name, i)
			}
		}
		wantBag(t, fmt.Sprint(name, ", twice doubled ", i), b, append(slices.Clone(l), x, x)...)
		wantTake(t, name, b, i, x)
		wantBag(t, fmt.Sprint(name, ", doubled and taken ", i), b, append(without(l, i), x, x)...)
	}
	b := bagOf(l...)
	for _, i := range append([]int{len(l), len(l) + 1}, strangePlaces...) {
		if b.Double(i) {
			t.Errorf("%s: Double(%d) tells true", name, i)
		}
		wantBag(t, fmt.Sprint(name, ", Double at ", i), b, l...)
	}
	b = bagOf(l[0])
	if !b.Double(0) || !b.Double(1) || b.Double(3) {
		t.Errorf("%s: the only one is not doubled", name)
	}
	wantBag(t, name+", the only one", b, l[0], l[0], l[0])
}

// P16.2: none, one, some, all; asked in order, each once.
func TestDrop(t *testing.T) {
	testDrop(t, "numbers", numbers)
	testDrop(t, "texts", texts)
	testDrop(t, "structs", parcels)
}

func testDrop[T any](t *testing.T, name string, l []T) {
	t.Helper()
	for mask := range 1 << len(l) {
		b := bagOf(l...)
		var asked, left []T
		n := b.Drop(func(x T) bool {
			asked = append(asked, x)
			return mask>>(len(asked)-1)&1 == 1
		})
		for i, x := range l {
			if mask>>i&1 == 0 {
				left = append(left, x)
			}
		}
		if n != len(l)-len(left) {
			t.Errorf("%s: Drop by %b tells %d", name, mask, n)
		}
		if !sameList(asked, l) {
			t.Errorf("%s: Drop by %b asks of %v, not of %v", name, mask, asked, l)
		}
		wantBag(t, fmt.Sprintf("%s, dropped by %b", name, mask), b, left...)
		b.Put(l[0])
		wantBag(t, fmt.Sprintf("%s, dropped by %b, and one more", name, mask), b, append(left, l[0])...)
	}
	b := bagOf(l...)
	if n := b.Drop(nil); n != 0 {
		t.Errorf("%s: Drop(nil) tells %d", name, n)
	}
	wantBag(t, name+", Drop(nil)", b, l...)
}

// P16.2, rule 1: of a thing on which it panics, what is handed in does not say so; the others are asked.
func TestDropOfWhatPanics(t *testing.T) {
	for _, with := range []any{"a text", fmt.Errorf("an error"), 7, nil} {
		b := bagOf(0, 1, 2, 3, 4, 5)
		var asked []int
		n := b.Drop(func(x int) bool {
			asked = append(asked, x)
			if x%2 == 1 {
				panic(with)
			}
			return x > 0
		})
		if n != 2 || !slices.Equal(asked, []int{0, 1, 2, 3, 4, 5}) {
			t.Errorf("%v: Drop tells %d, and asks of %v", with, n, asked)
		}
		wantBag(t, fmt.Sprint("a panic with ", with), b, 0, 1, 3, 5)
	}
}

// P16.2, P16.4: what comes and goes while Drop asks is neither lost, nor back, nor counted twice.
func TestDropWhileItChanges(t *testing.T) {
	b := bagOf(0, 1, 2, 3)
	asked := 0
	if n := b.Drop(func(x int) bool { asked++; b.Put(x + 10); return x < 2 || x >= 10 }); n != 2 || asked != 4 {
		t.Errorf("with Put: Drop tells %d, and asks %d times", n, asked)
	}
	wantBag(t, "with Put", b, 2, 3, 10, 11, 12, 13)

	b = bagOf(0, 1, 2, 3)
	if n := b.Drop(func(x int) bool {
		if x == 1 {
			wantTake(t, "with Take", b, 1, 1)
			wantTake(t, "with Take", b, 0, 0)
			wantTake(t, "with Take", b, 0, 2)
		}
		return true
	}); n != 1 {
		t.Errorf("with Take: Drop tells %d", n)
	}
	wantBag(t, "with Take", b)

	b = bagOf(0, 1, 2, 3)
	if n := b.Drop(func(x int) bool { return b.Double(x) && x != 2 }); n != 3 {
		t.Errorf("with Double: Drop tells %d", n)
	}
	wantBag(t, "with Double", b, 2, 0, 1, 2, 3)

	b = bagOf(0, 1, 2, 3, 4, 5)
	inner := 0
	if n := b.Drop(func(x int) bool {
		inner += b.Drop(func(y int) bool { return y == x+1 && y%3 == 0 })
		return x%2 == 1
	}); n != 2 || inner != 1 {
		t.Errorf("with Drop: Drop tells %d and %d", n, inner)
	}
	wantBag(t, "with Drop", b, 0, 2, 4)

	b = bagOf(0, 1, 2)
	if n := b.Drop(func(x int) bool { wantBag(t, "it is asked", b, 0, 1, 2); return true }); n != 3 {
		t.Errorf("Drop tells %d", n)
	}
	wantBag(t, "it was asked", b)
}

// P16.1: a going through that is ended, and then done again.
func TestAllEnds(t *testing.T) {
	b := bagOf(texts...)
	all := b.All()
	for end := range texts {
		var got []string
		for i, x := range all {
			if i != len(got) {
				t.Errorf("the place %d behind %d things", i, len(got))
			}
			got = append(got, x)
			if i == end {
				break
			}
		}
		if !slices.Equal(got, texts[:end+1]) {
			t.Errorf("ended at %d: %q", end, got)
		}
	}
	wantBag(t, "behind all of that", b, texts...)
	for i, x := range all {
		for j, y := range all {
			if x != texts[i] || y != texts[j] {
				t.Errorf("one in the other: %q at %d, %q at %d", x, i, y, j)
			}
		}
	}
}

// changes are what may be done to a bag of at least five numbers.
func changes() map[string]func(*net.Bag[int]) {
	return map[string]func(*net.Bag[int]){
		"one put in":     func(b *net.Bag[int]) { b.Put(99) },
		"many put in":    func(b *net.Bag[int]) { b.Put(make([]int, 50)...) },
		"first taken":    func(b *net.Bag[int]) { b.Take(0) },
		"third taken":    func(b *net.Bag[int]) { b.Take(2) },
		"last taken":     func(b *net.Bag[int]) { b.Take(b.Len() - 1) },
		"doubled":        func(b *net.Bag[int]) { b.Double(0) },
		"some dropped":   func(b *net.Bag[int]) { b.Drop(func(x int) bool { return x%2 == 0 }) },
		"all dropped":    func(b *net.Bag[int]) { b.Drop(func(int) bool { return true }) },
		"one exchanged":  func(b *net.Bag[int]) { b.Take(1); b.Put(98) },
		"all exchanged":  func(b *net.Bag[int]) { b.Drop(func(int) bool { return true }); b.Put(5, 4, 3, 2, 1, 0, -1) },
		"taken and back": func(b *net.Bag[int]) { x, _ := b.Take(0); b.Put(x) },
	}
}

// told goes through a bag, and does something at one place.
func told(all iter.Seq2[int, int], at int, do func()) (places, things []int) {
	for i, x := range all {
		places, things = append(places, i), append(things, x)
		if i == at {
			do()
		}
	}
	return places, things
}

// P16.1: what is told is as it was when the going through began, whatever is done meanwhile.
func TestAllWhileItChanges(t *testing.T) {
	l := []int{10, 11, 12, 13, 14}
	for name, change := range changes() {
		for at := range l {
			b, other := bagOf(l...), bagOf(l...)
			change(other)
			places, things := told(b.All(), at, func() { change(b) })
			if !slices.Equal(places, []int{0, 1, 2, 3, 4}) || !slices.Equal(things, l) {
				t.Errorf("%s at %d: it tells %v at %v", name, at, things, places)
			}
			var want []int
			for _, x := range other.All() {
				want = append(want, x)
			}
			wantBag(t, fmt.Sprint(name, " at ", at), b, want...)
		}
	}
	b := bagOf(l...)
	n := 0
	for _, x := range b.All() {
		n++
		b.Put(x)
		b.Double(0)
	}
	if n != 5 || b.Len() != 15 {
		t.Errorf("a bag that grows: %d told, %d in it", n, b.Len())
	}
}

// P16.1: a going through begins where its range does, not where All is called, and anew each time.
func TestAllBeginsAtTheRange(t *testing.T) {
	var b net.Bag[int]
	all := b.All()
	var want []int
	for i := range 5 {
		b.Put(i)
		want = append(want, i)
		_, things := told(all, -1, nil)
		if !slices.Equal(things, want) {
			t.Errorf("behind %d calls of Put: %v", i+1, things)
		}
	}
	b.Take(0)
	if _, things := told(all, -1, nil); !slices.Equal(things, want[1:]) {
		t.Errorf("behind Take: %v", things)
	}
}

// P16.1: who goes through a bag may panic; the bag is as it was.
func TestAllLetsAPanicThrough(t *testing.T) {
	b := bagOf(1, 2, 3)
	func() {
		defer func() {
			if recover() != "mine" {
				t.Error("the panic is not the one that was")
			}
		}()
		for range b.All() {
			panic("mine")
		}
	}()
	wantBag(t, "behind a panic", b, 1, 2, 3)
}

// P16.3
func TestAt(t *testing.T) {
	for _, x := range []struct{ n, size, want int }{
		{0, 1, 0}, {5, 1, 0}, {-5, 1, 0}, {math.MaxInt, 1, 0}, {math.MinInt, 1, 0},
		{0, 3, 0}, {1, 3, 1}, {2, 3, 2}, {3, 3, 0}, {4, 3, 1}, {6, 3, 0}, {-1, 3, 2}, {-2, 3, 1}, {-3, 3, 0}, {-4, 3, 2},
		{5, 0, 0}, {5, -1, 0}, {-5, -3, 0}, {-1, 0, 0}, {math.MinInt, -1, 0}, {math.MaxInt, math.MinInt, 0}, {math.MinInt, math.MinInt, 0}, {7, -7, 0},
		{math.MaxInt, math.MaxInt, 0}, {math.MaxInt - 1, math.MaxInt, math.MaxInt - 1}, {0, math.MaxInt, 0}, {-1, math.MaxInt, math.MaxInt - 1},
		{-math.MaxInt, math.MaxInt, 0}, {math.MinInt, math.MaxInt, math.MaxInt - 1}, {math.MinInt, 2, 0}, {math.MaxInt, 2, 1}, {-1, 2000, 1999},
	} {
		if got := net.At(x.n, x.size); got != x.want {
			t.Errorf("At(%d, %d): %d, not %d", x.n, x.size, got, x.want)
		}
	}
}

// P16.3: held against whole numbers without bounds.
func TestAtOfMany(t *testing.T) {
	var l []int
	for i := -30; i <= 30; i++ {
		l = append(l, i, i*1000+7, i<<32+1)
	}
	for i := range 30 {
		l = append(l, math.MaxInt-i, math.MinInt+i, math.MaxInt/2+i-15)
	}
	for _, n := range l {
		for _, size := range l {
			want := 0
			if size > 0 {
				want = int(new(big.Int).Mod(big.NewInt(int64(n)), big.NewInt(int64(size))).Int64())
			}
			if got := net.At(n, size); got != want {
				t.Errorf("At(%d, %d): %d, not %d", n, size, got, want)
			}
		}
	}
}
