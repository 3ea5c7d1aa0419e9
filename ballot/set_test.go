package ballot_test

import (
	"fmt"
	"math"
	"math/rand/v2"
	"testing"

	"raceway/ballot"
)

// wantSet checks what a set says of some elements, and how many it has.
func wantSet[T comparable](t *testing.T, name string, s *ballot.Set[T], in, out []T) {
	t.Helper()
	for _, x := range in {
		if !s.Has(x) {
			t.Errorf("%s: %v is not in it", name, x)
		}
	}
	for _, x := range out {
		if s.Has(x) {
			t.Errorf("%s: %v is in it", name, x)
		}
	}
	if n := s.Len(); n != len(in) {
		t.Errorf("%s: Len: %d, not %d", name, n, len(in))
	}
}

func wantAdd[T comparable](t *testing.T, s *ballot.Set[T], x T, added bool) {
	t.Helper()
	if got := s.Add(x); got != added {
		t.Errorf("Add(%v): %v", x, got)
	}
}

// goThrough adds each of some elements, which are unlike each other, twice.
func goThrough[T comparable](t *testing.T, name string, all ...T) {
	t.Helper()
	var s ballot.Set[T]
	wantSet(t, name+", plain", &s, nil, all)
	for i, x := range all {
		wantSet(t, name, &s, all[:i], all[i:])
		wantAdd(t, &s, x, true)
		wantSet(t, name, &s, all[:i+1], all[i+1:])
		wantAdd(t, &s, x, false)
		wantAdd(t, &s, all[0], false)
	}
	wantSet(t, name, &s, all, nil)
}

// P9.4: sets of integers, of texts, and of other things that can be compared; zero values are elements, too.
func TestSet(t *testing.T) {
	type pair struct {
		node int
		name string
	}
	goThrough(t, "integers", 3, 0, -1, 1, math.MinInt, math.MaxInt)
	goThrough(t, "zero first", 0, 1)
	goThrough(t, "texts", "a", "", "A", "ab", "\x00", "\xff")
	goThrough(t, "bools", true, false)
	goThrough(t, "structs", pair{1, "a"}, pair{}, pair{1, "b"}, pair{2, "a"})
	goThrough(t, "arrays", [2]int{1, 2}, [2]int{2, 1}, [2]int{})
	goThrough(t, "pointers", new(1), new(1), nil)
	goThrough[any](t, "interfaces", 1, "1", nil, int8(1), pair{1, "a"})
}

// P9.4: the plain set, wherever it stands.
func TestPlainSet(t *testing.T) {
	wantSet(t, "literal", &ballot.Set[int]{}, nil, []int{0, 1, -1})
	wantSet(t, "new", new(ballot.Set[string]), nil, []string{"", "a"})
	tallies := map[int]*ballot.Set[int]{4: {}, 5: {}}
	wantAdd(t, tallies[4], 1, true)
	wantSet(t, "the one", tallies[4], []int{1}, []int{0, 2})
	wantSet(t, "the other", tallies[5], nil, []int{0, 1, 2})
	wantSet(t, "nobody's", tallies[6], nil, []int{0, 1, 2})
}

// P9.4: two sets are apart.
func TestSetsAreApart(t *testing.T) {
	var a, b ballot.Set[int]
	wantAdd(t, &a, 1, true)
	wantAdd(t, &b, 2, true)
	wantAdd(t, &b, 1, true)
	wantSet(t, "the one", &a, []int{1}, []int{2})
	wantSet(t, "the other", &b, []int{1, 2}, []int{0})
}

// P9.4: asking puts nothing in.
func TestHasPutsNothingIn(t *testing.T) {
	var s ballot.Set[string]
	for range 3 {
		wantSet(t, "plain", &s, nil, []string{"", "a"})
	}
	wantAdd(t, &s, "a", true)
	for range 3 {
		wantSet(t, "of one", &s, []string{"a"}, []string{"", "b"})
	}
}

// P9.4: many elements, each once, and each again.
func TestSetOfMany(t *testing.T) {
	const many = 30000
	var numbers ballot.Set[int]
	var texts ballot.Set[string]
	for i := range many {
		n := i * 7919 % many // each below many once, in no order: 7919 is a prime that does not part it
		wantAdd(t, &numbers, n, true)
		wantAdd(t, &texts, fmt.Sprint(n), true)
	}
	for n := range many {
		wantAdd(t, &numbers, n, false)
		wantAdd(t, &texts, fmt.Sprint(n), false)
		if !numbers.Has(n) || numbers.Has(n+many) || numbers.Has(-1-n) || texts.Has(fmt.Sprint(n+many)) {
			t.Fatalf("%d, or one that was not added", n)
		}
	}
	if numbers.Len() != many || texts.Len() != many {
		t.Errorf("%d numbers, %d texts", numbers.Len(), texts.Len())
	}
}

// P9.4: any calls, held against a list that is gone through.
func TestSetOfAnyCalls(t *testing.T) {
	r := rand.New(rand.NewPCG(9, 4))
	for range 300 {
		var s ballot.Set[int]
		var in [20]bool
		count := 0
		for range 60 {
			x := r.IntN(len(in))
			if r.IntN(2) == 0 {
				wantAdd(t, &s, x, !in[x])
				if !in[x] {
					in[x] = true
					count++
				}
			}
			if y := r.IntN(len(in)); s.Has(y) != in[y] || s.Len() != count {
				t.Fatalf("Has(%d): %v; Len: %d, not %d", y, s.Has(y), s.Len(), count)
			}
		}
	}
}

// P9.4: of nil, each call tells nothing, and does nothing.
func TestNilSet(t *testing.T) {
	var numbers *ballot.Set[int]
	var texts *ballot.Set[string]
	var things *ballot.Set[any]
	for range 2 {
		wantAdd(t, numbers, 1, false)
		wantAdd(t, texts, "a", false)
		wantAdd(t, things, any([]int{1}), false)
		wantSet(t, "nil", numbers, nil, []int{0, 1})
		wantSet(t, "nil", texts, nil, []string{"", "a"})
		wantSet(t, "nil", things, nil, []any{nil, 1, []int{1}})
	}
}

// Rule 1: an interface may hold what can't be compared: it is never in a set, and nothing panics.
func TestSetOfWhatCannotBeCompared(t *testing.T) {
	type box struct{ inner any }
	wrong := []any{[]int{1}, []int(nil), map[int]int{}, func() {}, struct{ l []byte }{}, [1]any{[]int{}}, box{[]int{1}}}
	var s ballot.Set[any]
	for range 2 {
		for _, x := range wrong {
			wantAdd(t, &s, x, false)
		}
		wantSet(t, "of none", &s, nil, wrong)
	}
	wantAdd(t, &s, any(1), true)
	for _, x := range wrong {
		wantAdd(t, &s, x, false)
	}
	wantSet(t, "of one", &s, []any{1}, wrong)
	wantAdd(t, &s, any(box{2}), true)
	wantSet(t, "of two", &s, []any{1, box{2}}, wrong)
}
