package place_test

import (
	"hash/fnv"
	"math"
	"math/rand/v2"
	"slices"
	"strings"
	"testing"

	"raceway/api"
	"raceway/place"
)

const span = 65536

func from(lo, hi int) api.Range { return api.Range{Lo: lo, Hi: hi} }

func list(l ...api.Range) []api.Range { return l }

// all gives each range with both ends among these.
func all(ends ...int) []api.Range {
	var l []api.Range
	for _, lo := range ends {
		for _, hi := range ends {
			l = append(l, from(lo, hi))
		}
	}
	return l
}

// wrong has ranges that may not be: each has some places, if one of its ends isn't looked at, or none.
var wrong = []api.Range{
	from(0, 0), from(7, 7), from(span, span), from(span-1, span-1), from(-1, -1), from(-1, 0),
	from(3, 2), from(span, 0), from(10, 0), from(1, 0), from(span, span-1),
	from(-1, 1), from(-1, span), from(-1, span+1), from(-5, -2), from(math.MinInt, 5), from(math.MinInt, span),
	from(0, span+1), from(span-1, span+1), from(span, span+1), from(span+1, span+2), from(0, math.MaxInt),
	from(math.MinInt, math.MaxInt), from(math.MaxInt, math.MinInt), from(math.MinInt, math.MinInt), from(math.MaxInt, math.MaxInt),
}

// right has ranges that may be.
var right = []api.Range{
	from(0, span), from(0, 1), from(1, 2), from(span-1, span), from(0, span-1), from(1, span), from(0, 10), from(300, 40000),
}

// mayBe is the document's words, apart from the package that is tested.
func mayBe(r api.Range) bool { return r.Lo >= 0 && r.Lo < r.Hi && r.Hi <= span }

func has(r api.Range, p int) bool { return mayBe(r) && p >= r.Lo && p < r.Hi }

// runs tells the places below end that are had, as few ranges as can be, place by place.
func runs(end int, had func(p int) bool) []api.Range {
	var l []api.Range
	for p := range end {
		if !had(p) {
			continue
		}
		if n := len(l); n > 0 && l[n-1].Hi == p {
			l[n-1].Hi++
		} else {
			l = append(l, from(p, p+1))
		}
	}
	return l
}

// joined and cut are Join and Cut place by place, for ranges whose places lie below end.
func joined(l []api.Range, end int) []api.Range {
	return runs(end, func(p int) bool {
		return slices.ContainsFunc(l, func(r api.Range) bool { return has(r, p) })
	})
}

func cut(l []api.Range, out api.Range, end int) []api.Range {
	var left []api.Range
	for _, r := range l {
		left = append(left, runs(end, func(p int) bool { return has(r, p) && !has(out, p) })...)
	}
	return left
}

// hidden gives l with ranges behind its length, and a check that nothing of it is changed.
func hidden(t *testing.T, l []api.Range) ([]api.Range, func()) {
	long := slices.Concat(l, list(from(0, span), from(20, 30)))
	was := slices.Clone(long)
	return long[:len(l)], func() {
		t.Helper()
		if !slices.Equal(long, was) {
			t.Errorf("what was handed in is changed: %v, it was %v", long, was)
		}
	}
}

func wantList(t *testing.T, got, want []api.Range, of ...any) {
	t.Helper()
	if !slices.Equal(got, want) {
		t.Errorf("%v: got %v, want %v", of, got, want)
	}
}

// P4.1
func TestOfKnownTexts(t *testing.T) {
	for _, c := range []struct {
		group string
		want  int
	}{
		{"", 0x811c ^ 0x9dc5},
		{"a", 52512},
		{"a", 0xe40c ^ 0x292c},
		{"b", 0xe70c ^ 0x2de5},
		{"foobar", 0xbf9c ^ 0xf968},
	} {
		if got := place.Of(c.group); got != c.want {
			t.Errorf("Of(%q) = %d, want %d", c.group, got, c.want)
		}
	}
}

// P4.1: every byte counts, in its order, whether or not they are signs.
func TestOfIsTheLibrarys(t *testing.T) {
	texts := []string{"", "ab", "ba", "\x00", "\x00\x00", "é", "\xff\xfe", "\xc3", "日本語", "g\x80", strings.Repeat("group", 1000)}
	for x := range 256 {
		texts = append(texts, string([]byte{byte(x)}), string([]byte{'g', byte(x), byte(x)}))
	}
	chance := rand.New(rand.NewPCG(4, 1))
	for n := range 300 {
		b := make([]byte, n)
		for i := range b {
			b[i] = byte(chance.UintN(256))
		}
		texts = append(texts, string(b))
	}
	for _, text := range texts {
		h := fnv.New32a()
		h.Write([]byte(text))
		want := int(h.Sum32()>>16) ^ int(h.Sum32()%span)
		if got := place.Of(text); got != want || got < 0 || got >= span {
			t.Errorf("Of(%q) = %d, want %d", text, got, want)
		}
	}
}

// P4.1
func TestOfReachesAllOfTheSpan(t *testing.T) {
	var quarters [4]int
	for i := range 4000 {
		quarters[place.Of("group "+string(rune('a'+i%26))+strings.Repeat("x", i/26))*4/span]++
	}
	for i, n := range quarters {
		if n < 500 {
			t.Errorf("only %d of 4000 groups lie in quarter %d: %v", n, i, quarters)
		}
	}
}

// P4.1
func TestMay(t *testing.T) {
	for _, r := range right {
		if !place.May(r) {
			t.Errorf("%v may be", r)
		}
	}
	for _, r := range wrong {
		if place.May(r) {
			t.Errorf("%v may not be", r)
		}
	}
	for _, r := range all(math.MinInt, -2, -1, 0, 1, 2, 300, span-2, span-1, span, span+1, math.MaxInt) {
		if place.May(r) != mayBe(r) {
			t.Errorf("May(%v) = %t", r, place.May(r))
		}
	}
}

// P4.1
func TestIn(t *testing.T) {
	for _, c := range []struct {
		r    api.Range
		p    int
		want bool
	}{
		{from(0, 10), 0, true}, {from(0, 10), 9, true}, {from(0, 10), 10, false}, {from(0, 10), -1, false},
		{from(5, 6), 4, false}, {from(5, 6), 5, true}, {from(5, 6), 6, false},
		{from(0, 1), 0, true}, {from(0, 1), 1, false},
		{from(0, span), 0, true}, {from(0, span), span - 1, true}, {from(0, span), span, false}, {from(0, span), -1, false},
		{from(0, span), math.MinInt, false}, {from(0, span), math.MaxInt, false},
		{from(span-1, span), span - 1, true}, {from(span-1, span), span - 2, false}, {from(span-1, span), span, false},
		{from(0, 0), 0, false}, {from(7, 7), 7, false}, {from(-1, 10), 5, false}, {from(0, span+1), 5, false},
		{from(-1, 10), -1, false}, {from(0, span+1), span, false}, {from(10, 0), 5, false},
	} {
		if got := place.In(c.r, c.p); got != c.want {
			t.Errorf("In(%v, %d) = %t", c.r, c.p, got)
		}
	}
}

// P4.1: of a range that may not be, no place is in it; from Span on and below 0 there is none.
func TestInWrongRangesAndPlaces(t *testing.T) {
	for _, p := range []int{math.MinInt, -1, 0, 1, 2, 3, 7, span - 1, span, span + 1, math.MaxInt} {
		for _, r := range wrong {
			if place.In(r, p) {
				t.Errorf("In(%v, %d)", r, p)
			}
		}
		for _, r := range right {
			if got := place.In(r, p); got != has(r, p) || got && (p < 0 || p >= span) {
				t.Errorf("In(%v, %d) = %t", r, p, got)
			}
		}
	}
}

// P4.2
func TestSplit(t *testing.T) {
	for _, c := range []struct {
		r         api.Range
		at        int
		low, high api.Range
	}{
		{from(0, 10), 4, from(0, 4), from(4, 10)},
		{from(0, 10), 1, from(0, 1), from(1, 10)},
		{from(0, 10), 9, from(0, 9), from(9, 10)},
		{from(0, 2), 1, from(0, 1), from(1, 2)},
		{from(0, span), 1, from(0, 1), from(1, span)},
		{from(0, span), span / 2, from(0, span/2), from(span/2, span)},
		{from(0, span), span - 1, from(0, span-1), from(span-1, span)},
		{from(span-2, span), span - 1, from(span-2, span-1), from(span-1, span)},
		{from(100, 200), 150, from(100, 150), from(150, 200)},
	} {
		low, high, e := place.Split(c.r, c.at)
		if low != c.low || high != c.high || e != api.OK {
			t.Errorf("Split(%v, %d) = %v, %v, error %d", c.r, c.at, low, high, int(e))
		}
	}
}

// P4.2: what is at an end or outside parts nothing, nor does anything part a range that may not be.
func TestSplitRefuses(t *testing.T) {
	refuse := func(r api.Range, at int) {
		t.Helper()
		low, high, e := place.Split(r, at)
		if low != (api.Range{}) || high != (api.Range{}) || e != api.ErrArg {
			t.Errorf("Split(%v, %d) = %v, %v, error %d", r, at, low, high, int(e))
		}
	}
	for _, r := range right {
		for _, at := range []int{math.MinInt, -1, r.Lo - 1, r.Lo, r.Hi, r.Hi + 1, span, span + 1, math.MaxInt} {
			refuse(r, at)
		}
	}
	for _, r := range wrong {
		for _, at := range []int{math.MinInt, -3, -1, 0, 1, 2, 3, 5, 7, span - 1, span, span + 1, math.MaxInt, r.Lo, r.Hi} {
			refuse(r, at)
		}
	}
	for _, p := range []int{0, 1, 500, span - 1} {
		for at := p - 1; at <= p+2; at++ {
			refuse(from(p, p+1), at)
		}
	}
}

// P4.2
func TestMeet(t *testing.T) {
	none := api.Range{}
	for _, c := range []struct{ a, b, want api.Range }{
		{from(0, 10), from(8, 20), from(8, 10)},
		{from(0, 10), from(0, 10), from(0, 10)},
		{from(0, 10), from(3, 5), from(3, 5)},
		{from(0, 10), from(0, 5), from(0, 5)},
		{from(0, 10), from(5, 10), from(5, 10)},
		{from(0, 10), from(9, 10), from(9, 10)},
		{from(0, 10), from(10, 20), none},
		{from(0, 10), from(11, 20), none},
		{from(0, 1), from(0, span), from(0, 1)},
		{from(span-1, span), from(0, span), from(span-1, span)},
		{from(0, span), from(0, span), from(0, span)},
		{from(5, 6), from(5, 6), from(5, 6)},
		{from(5, 6), from(6, 7), none},
		{from(0, 1), from(span-1, span), none},
		{from(-1, 10), from(3, 5), none},
		{from(3, 5), from(0, span+1), none},
		{from(0, 0), from(0, 10), none},
		{from(10, 0), from(0, 10), none},
	} {
		if got := place.Meet(c.a, c.b); got != c.want {
			t.Errorf("Meet(%v, %v) = %v, want %v", c.a, c.b, got, c.want)
		}
		if got := place.Meet(c.b, c.a); got != c.want {
			t.Errorf("Meet(%v, %v) = %v, want %v", c.b, c.a, got, c.want)
		}
	}
}

// P4.2: the ends are the only places at which anything changes, so that to ask at them is enough.
func TestMeetHasWhatBothHave(t *testing.T) {
	ends := []int{math.MinInt, -1, 0, 1, 2, 3, 300, 301, span - 2, span - 1, span, span + 1, math.MaxInt}
	for _, a := range all(ends...) {
		for _, b := range all(ends...) {
			both := place.Meet(a, b)
			if both != (api.Range{}) && !mayBe(both) {
				t.Fatalf("Meet(%v, %v) = %v", a, b, both)
			}
			for _, p := range ends {
				if has(both, p) != (has(a, p) && has(b, p)) {
					t.Fatalf("Meet(%v, %v) = %v, which is wrong at %d", a, b, both, p)
				}
			}
		}
	}
}

// P4.3
func TestFind(t *testing.T) {
	l := list(from(10, 20), from(-1, 50), from(0, 10), from(5, 15), from(0, 0), from(30, 31), from(30, 31), from(40, span))
	for _, c := range []struct{ p, want int }{
		{0, 2}, {4, 2}, {5, 2}, {9, 2}, {10, 0}, {14, 0}, {19, 0}, {20, -1}, {29, -1}, {30, 5}, {31, -1}, {39, -1}, {40, 7}, {span - 1, 7},
		{span, -1}, {span + 1, -1}, {-1, -1}, {math.MinInt, -1}, {math.MaxInt, -1},
	} {
		given, stayed := hidden(t, l)
		if got := place.Find(given, c.p); got != c.want {
			t.Errorf("Find %d: %d, want %d", c.p, got, c.want)
		}
		stayed()
	}
}

// P4.3
func TestFindNothing(t *testing.T) {
	for _, p := range []int{math.MinInt, -1, 0, 1, 3, 7, span - 1, span, math.MaxInt} {
		behind, _ := hidden(t, nil)
		for _, l := range [][]api.Range{nil, {}, behind, wrong} {
			if got := place.Find(l, p); got != -1 {
				t.Errorf("Find %d among %v: %d", p, l, got)
			}
		}
	}
	// Those that may not be count as elements.
	if got := place.Find(append(slices.Clone(wrong), from(0, span)), 3); got != len(wrong) {
		t.Errorf("behind %d wrong ranges: %d", len(wrong), got)
	}
}

// P4.3
func TestCovers(t *testing.T) {
	for _, c := range []struct {
		name string
		l    []api.Range
		want bool
	}{
		{"nothing", nil, false},
		{"an empty list", list(), false},
		{"the empty range", list(from(0, 0)), false},
		{"all in one", list(from(0, span)), true},
		{"all twice", list(from(0, span), from(0, span)), false},
		{"all but the first", list(from(1, span)), false},
		{"all but the last", list(from(0, span-1)), false},
		{"all but one in the midst", list(from(0, 5), from(6, span)), false},
		{"two that touch", list(from(0, 5), from(5, span)), true},
		{"out of order", list(from(5, span), from(0, 5)), true},
		{"three out of order", list(from(span-1, span), from(0, 1), from(1, span-1)), true},
		{"one place in two", list(from(0, 6), from(5, span)), false},
		{"one place in two, and one in none", list(from(0, 6), from(5, span-1)), false},
		{"as many as there are, some twice", list(from(0, span/2), from(0, span/2)), false},
		{"the same twice, beside all others", list(from(0, 5), from(0, 5), from(5, span)), false},
		{"one within another", list(from(0, span), from(7, 8)), false},
		{"beside the empty range", list(from(0, span), from(0, 0)), false},
		{"behind the empty range", list(from(0, 0), from(0, 5), from(5, span)), false},
		{"beside one that ends ahead of its beginning", list(from(0, span), from(9, 3)), false},
		{"from below 0", list(from(-1, span)), false},
		{"past the end", list(from(0, span+1)), false},
		{"from below 0 and past the end", list(from(-1, 5), from(5, span+1)), false},
		{"what is wrong in two takes itself away", list(from(0, span), from(0, 5), from(5, 0)), false},
		{"as far as numbers go", list(from(math.MinInt, math.MaxInt)), false},
	} {
		t.Run(c.name, func(t *testing.T) {
			given, stayed := hidden(t, c.l)
			if got := place.Covers(given); got != c.want {
				t.Errorf("Covers(%v) = %t", c.l, got)
			}
			stayed()
		})
	}
	for _, r := range wrong {
		if place.Covers(list(r)) || place.Covers(list(from(0, span), r)) || place.Covers(list(r, from(0, 9), from(9, span))) {
			t.Errorf("covers with %v", r)
		}
	}
}

// P4.3: all lists of three with these ends; one place stands for those between two ends.
func TestCoversEachPlaceOnce(t *testing.T) {
	ranges := all(-1, 0, 1, 2, span-1, span, span+1)
	covers := func(l ...api.Range) bool {
		for _, p := range []int{0, 1, 2, span - 1} {
			n := 0
			for _, r := range l {
				if !mayBe(r) {
					return false
				}
				if has(r, p) {
					n++
				}
			}
			if n != 1 {
				return false
			}
		}
		return true
	}
	for _, a := range ranges {
		for _, b := range ranges {
			if l := list(a, b); place.Covers(l) != covers(l...) {
				t.Fatalf("Covers(%v) = %t", l, place.Covers(l))
			}
			for _, c := range ranges {
				if l := list(a, b, c); place.Covers(l) != covers(l...) {
					t.Fatalf("Covers(%v) = %t", l, place.Covers(l))
				}
			}
		}
	}
}

// P4.3, P4.4: each place a range of its own, mixed up.
func TestAllPlacesOneByOne(t *testing.T) {
	chance := rand.New(rand.NewPCG(4, 3))
	var l []api.Range
	for _, p := range chance.Perm(span) {
		l = append(l, from(p, p+1))
	}
	if !place.Covers(l) {
		t.Error("all places one by one don't cover")
	}
	wantList(t, place.Join(l), list(from(0, span)), "all places one by one")
	wantList(t, place.Join(append(slices.Clone(l), l...)), list(from(0, span)), "all places twice")
	if place.Covers(l[1:]) || place.Covers(append(slices.Clone(l), l[77])) || place.Covers(append(slices.Clone(l[1:]), l[77])) {
		t.Error("covers, though one is missing or twice")
	}
	if n := len(place.Cut(l, from(100, 300))); n != span-200 {
		t.Errorf("Cut leaves %d ranges", n)
	}
	var even []api.Range
	for p := 0; p < span; p += 2 {
		even = append(even, from(p, p+1))
	}
	backwards := slices.Clone(even)
	slices.Reverse(backwards)
	wantList(t, place.Join(backwards), even, "every second place")
	if place.Covers(even) {
		t.Error("every second place covers")
	}
}

// P4.4
func TestCut(t *testing.T) {
	for _, c := range []struct {
		name string
		l    []api.Range
		r    api.Range
		want []api.Range
	}{
		{"in the midst", list(from(0, 10)), from(3, 5), list(from(0, 3), from(5, 10))},
		{"at its beginning", list(from(0, 10)), from(0, 5), list(from(5, 10))},
		{"at its end", list(from(0, 10)), from(5, 10), list(from(0, 5))},
		{"over its beginning", list(from(5, 10)), from(0, 7), list(from(7, 10))},
		{"over its end", list(from(5, 10)), from(7, 20), list(from(5, 7))},
		{"just all of it", list(from(5, 10)), from(5, 10), nil},
		{"more than all of it", list(from(5, 10)), from(4, 11), nil},
		{"ends where it begins", list(from(5, 10)), from(0, 5), list(from(5, 10))},
		{"begins where it ends", list(from(5, 10)), from(10, 20), list(from(5, 10))},
		{"far off", list(from(5, 10)), from(100, 200), list(from(5, 10))},
		{"one place of it", list(from(5, 10)), from(7, 8), list(from(5, 7), from(8, 10))},
		{"its first place", list(from(5, 10)), from(5, 6), list(from(6, 10))},
		{"its last place", list(from(5, 10)), from(9, 10), list(from(5, 9))},
		{"of one place, that place", list(from(5, 6)), from(5, 6), nil},
		{"of one place, the next", list(from(5, 6)), from(6, 7), list(from(5, 6))},
		{"all of all", list(from(0, span)), from(0, span), nil},
		{"one of all", list(from(0, span)), from(0, 1), list(from(1, span))},
		{"the last of all", list(from(0, span)), from(span-1, span), list(from(0, span-1))},
		{"nothing", list(from(0, 10)), from(0, 0), list(from(0, 10))},
		{"of nothing", nil, from(0, 10), nil},
		{"of an empty list", list(), from(0, span), nil},
		{"of what may not be", list(from(0, 0), from(-1, 10), from(0, span+1), from(9, 3)), from(3, 5), nil},
		{"by what may not be: below 0", list(from(0, 10), from(5, 6)), from(-1, 8), list(from(0, 10), from(5, 6))},
		{"by what may not be: past the end", list(from(0, 10), from(5, 6)), from(3, span+1), list(from(0, 10), from(5, 6))},
		{"by what may not be: none in it", list(from(0, 10)), from(5, 5), list(from(0, 10))},
		{"by what may not be: turned round", list(from(0, 10)), from(7, 3), list(from(0, 10))},
		{"out of order, touching, alike, overlapping and wrong ones",
			list(from(20, 30), from(0, 10), from(-1, 3), from(10, 20), from(0, 10), from(5, 25), from(6, 7), from(40, 50)),
			from(6, 22),
			list(from(22, 30), from(0, 6), from(0, 6), from(5, 6), from(22, 25), from(40, 50))},
		{"two that touch stay two", list(from(0, 5), from(5, 10)), from(20, 30), list(from(0, 5), from(5, 10))},
		{"each becomes two", list(from(0, 10), from(1, 9)), from(4, 5), list(from(0, 4), from(5, 10), from(1, 4), from(5, 9))},
	} {
		t.Run(c.name, func(t *testing.T) {
			given, stayed := hidden(t, c.l)
			wantList(t, place.Cut(given, c.r), c.want, c.l, c.r)
			stayed()
		})
	}
}

// P4.4: by a range that may not be nothing is cut off, and what may not be goes all the same.
func TestCutByWrongRanges(t *testing.T) {
	for _, r := range wrong {
		wantList(t, place.Cut(right, r), right, "by", r)
		wantList(t, place.Cut(slices.Concat(wrong, right, wrong), r), right, "wrong ones, by", r)
	}
	for _, r := range right {
		wantList(t, place.Cut(wrong, r), nil, "wrong ones, by", r)
	}
}

// P4.4
func TestJoin(t *testing.T) {
	for _, c := range []struct {
		name    string
		l, want []api.Range
	}{
		{"nothing", nil, nil},
		{"an empty list", list(), nil},
		{"the empty range", list(from(0, 0), from(0, 0)), nil},
		{"those that may not be", wrong, nil},
		{"one", list(from(3, 5)), list(from(3, 5))},
		{"one of one place", list(from(span-1, span)), list(from(span-1, span))},
		{"all", list(from(0, span)), list(from(0, span))},
		{"the document's", list(from(0, 3), from(5, 10), from(3, 5)), list(from(0, 10))},
		{"two that touch", list(from(0, 5), from(5, 10)), list(from(0, 10))},
		{"two that touch, turned round", list(from(5, 10), from(0, 5)), list(from(0, 10))},
		{"one place between two", list(from(0, 5), from(6, 10)), list(from(0, 5), from(6, 10))},
		{"out of order", list(from(20, 30), from(0, 5), from(10, 15)), list(from(0, 5), from(10, 15), from(20, 30))},
		{"overlapping", list(from(0, 7), from(4, 10)), list(from(0, 10))},
		{"alike", list(from(4, 10), from(4, 10), from(4, 10)), list(from(4, 10))},
		{"one within another", list(from(0, 10), from(3, 4)), list(from(0, 10))},
		{"one within another, and one behind both", list(from(0, 10), from(3, 4), from(5, 12)), list(from(0, 12))},
		{"same beginnings", list(from(0, 3), from(0, 9), from(0, 5)), list(from(0, 9))},
		{"same ends", list(from(5, 9), from(0, 9), from(3, 9)), list(from(0, 9))},
		{"wrong ones among them", list(from(-1, 3), from(5, 9), from(0, span+1), from(9, 12), from(0, 0), from(3, 2)), list(from(5, 12))},
		{"a wrong one between two", list(from(0, 3), from(5, 3), from(5, 8)), list(from(0, 3), from(5, 8))},
		{"first and last", list(from(span-1, span), from(0, 1)), list(from(0, 1), from(span-1, span))},
	} {
		t.Run(c.name, func(t *testing.T) {
			given, stayed := hidden(t, c.l)
			wantList(t, place.Join(given), c.want, c.l)
			stayed()
		})
	}
}

// P4.4, P4.5: all lists of up to three ranges with small ends.
func TestCutAndJoinOfSmallRanges(t *testing.T) {
	const end = 6
	ranges := all(-1, 0, 1, 2, 3, 4, 5)
	for _, a := range ranges {
		for _, b := range ranges {
			if l := list(a, b); !slices.Equal(place.Join(l), joined(l, end)) {
				t.Fatalf("Join(%v) = %v", l, place.Join(l))
			}
			for _, c := range ranges {
				if l := list(a, b, c); !slices.Equal(place.Join(l), joined(l, end)) {
					t.Fatalf("Join(%v) = %v", l, place.Join(l))
				}
				if l := list(a, b); !slices.Equal(place.Cut(l, c), cut(l, c, end)) {
					t.Fatalf("Cut(%v, %v) = %v", l, c, place.Cut(l, c))
				}
			}
		}
	}
}

// someRanges gives ranges that look like chance, some of them wrong, some alike.
func someRanges(chance *rand.Rand) []api.Range {
	ends := []int{-1, 0, 1, 100, 101, span - 1, span, span + 1}
	for range 6 {
		ends = append(ends, chance.IntN(span))
	}
	var l []api.Range
	for range chance.IntN(9) {
		l = append(l, from(ends[chance.IntN(len(ends))], ends[chance.IntN(len(ends))]))
	}
	return l
}

// P4.4, P4.5: place by place, nothing is lost and nothing comes.
func TestCutAndJoinOfWideRanges(t *testing.T) {
	chance := rand.New(rand.NewPCG(4, 4))
	for range 150 {
		l, out := someRanges(chance), append(someRanges(chance), from(0, 0))[0]
		wantList(t, place.Join(l), joined(l, span), l)
		wantList(t, place.Cut(l, out), cut(l, out, span), l, out)
		wantList(t, place.Join(place.Join(l)), place.Join(l), "joined again", l)
	}
}

// P4.5
func TestSplitPartsAndJoinPutsTogether(t *testing.T) {
	for _, r := range append(slices.Clone(right), from(0, 2), from(100, 140), from(span-30, span)) {
		for at := r.Lo + 1; at < r.Hi; at += max(1, (r.Hi-r.Lo)/50) {
			low, high, e := place.Split(r, at)
			if e != api.OK || low.Lo != r.Lo || low.Hi != at || high.Lo != at || high.Hi != r.Hi {
				t.Fatalf("Split(%v, %d) = %v, %v, error %d", r, at, low, high, int(e))
			}
			if place.Meet(low, high) != (api.Range{}) {
				t.Errorf("Split(%v, %d): both have %v", r, at, place.Meet(low, high))
			}
			wantList(t, place.Join(list(low, high)), list(r), r, at)
			wantList(t, place.Join(list(high, low)), list(r), r, at)
			for _, p := range []int{r.Lo - 1, r.Lo, at - 1, at, r.Hi - 1, r.Hi} {
				if place.In(low, p) && place.In(high, p) || (place.In(low, p) || place.In(high, p)) != place.In(r, p) {
					t.Errorf("Split(%v, %d) is wrong at %d", r, at, p)
				}
			}
		}
	}
}

// P4.5: parted again and again, till each part is one place.
func TestSplitAllTheWay(t *testing.T) {
	parts := list(from(0, span))
	for i := 0; i < len(parts); {
		r := parts[i]
		low, high, e := place.Split(r, (r.Lo+r.Hi)/2)
		if e != api.OK {
			if e != api.ErrArg || r.Hi-r.Lo != 1 {
				t.Fatalf("Split(%v): error %d", r, int(e))
			}
			i++
			continue
		}
		parts[i] = high
		parts = append(parts, low)
	}
	if len(parts) != span || !place.Covers(parts) {
		t.Errorf("%d parts", len(parts))
	}
	wantList(t, place.Join(parts), list(from(0, span)), "all parts")
}

// P4.4, P4.5: what Cut takes out, Join brings back.
func TestWhatIsCutIsJoinedAgain(t *testing.T) {
	chance := rand.New(rand.NewPCG(4, 5))
	for range 2000 {
		l, out := someRanges(chance), append(someRanges(chance), from(0, 0))[0]
		parts := place.Cut(l, out)
		for _, r := range l {
			parts = append(parts, place.Meet(r, out))
		}
		wantList(t, place.Join(parts), place.Join(l), l, out)
	}
}

// Rule 5: what is handed out is new memory.
func TestAnswersHaveTheirOwnMemory(t *testing.T) {
	for _, l := range [][]api.Range{list(from(0, 5), from(7, 9)), list(from(7, 9)), list(from(7, 9), from(0, 0), from(0, 5))} {
		for name, answer := range map[string]func([]api.Range) []api.Range{
			"Join":     place.Join,
			"Cut":      func(l []api.Range) []api.Range { return place.Cut(l, from(100, 200)) },
			"Cut none": func(l []api.Range) []api.Range { return place.Cut(l, from(0, 0)) },
		} {
			given, stayed := hidden(t, l)
			first := answer(given)
			want := slices.Clone(first)
			for i := range first {
				first[i] = from(1, 2)
			}
			_ = append(first, from(3, 4))
			stayed()
			second := answer(given)
			clear(given)
			if !slices.Equal(second, want) {
				t.Errorf("%s of %v goes with what was handed in or out: %v", name, l, second)
			}
			for _, r := range second[len(second):cap(second)] {
				if r != (api.Range{}) {
					t.Errorf("%s of %v: %v lies behind its length", name, l, r)
				}
			}
		}
	}
}
