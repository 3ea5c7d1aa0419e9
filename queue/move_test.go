package queue_test

import (
	"fmt"
	"slices"
	"strings"
	"testing"

	"raceway/api"
	"raceway/queue"
)

// full has something else in each part.
func full(seed int) api.Group {
	return api.Group{
		Next:    300 + seed,
		Kept:    []api.Kept{{Seq: 1, Sent: 2, Count: 3, Until: 4, From: 5, Body: fmt.Sprint("six ", seed)}, {Seq: 129, Sent: maxTime, Count: 0, Until: 1 << 14, From: 2, Body: ""}},
		Marks:   []api.Mark{{Token: "t", Seq: 7, At: 8}, {Token: "", Seq: seed, At: 9000}},
		Attempt: "attempt",
	}
}

// scattered gives groups of some queues all over the places, in the order of their queues and names.
func scattered(queues, n int) []entry {
	var l []entry
	for q := range queues {
		for i, name := range namesIn(whole, n) {
			if (i+q)%3 > 0 {
				l = append(l, entry{q, name, full(100*q + i)})
			}
		}
	}
	return l
}

// inside and outside part groups by their places.
func inside(l []entry, r api.Range) []entry {
	return slices.DeleteFunc(slices.Clone(l), func(x entry) bool { return !has(list(r), placeOf(x.name)) })
}

func outside(l []entry, r api.Range) []entry {
	return slices.DeleteFunc(slices.Clone(l), func(x entry) bool { return has(list(r), placeOf(x.name)) })
}

func wantTexts(t *testing.T, name string, got, want []string) {
	t.Helper()
	if !slices.Equal(got, want) {
		t.Errorf("%s: %d texts\n%q, not %d\n%q", name, len(got), got, len(want), want)
	}
}

// cut cuts a range out that is served, and checks that what is told is new memory.
func cut(t *testing.T, x *queue.Engine, r api.Range) []string {
	t.Helper()
	texts, e := x.Cut(r)
	wantError(t, fmt.Sprint("Cut of ", r), e, api.OK)
	return texts
}

// P12.4: all, a part, and what is served by two ranges that touch: texts by queues and names, byte by byte; the rest stays.
func TestCut(t *testing.T) {
	groups := scattered(3, 20)
	for _, c := range []struct {
		r    api.Range
		left []api.Range
	}{
		{from(0, span), nil}, {from(0, span/2), high}, {from(span/2, span), low}, {from(20000, 50000), list(from(0, 20000), from(50000, span))},
		{from(0, 1), list(from(1, span))}, {from(span-1, span), list(from(0, span-1))},
		{from(placeOf("g100"), placeOf("g100")+1), list(from(0, placeOf("g100")), from(placeOf("g100")+1, span))},
	} {
		x := newEngine(t, withDead(1), nil)
		serve(t, x, slices.Concat(high, low), groups)
		y := x.Copy()
		name := fmt.Sprint("Cut of ", c.r)
		texts := cut(t, x, c.r)
		wantTexts(t, name, texts, textsOf(inside(groups, c.r)))
		wantServed(t, name, x, c.left...)
		wantState(t, name, x, outside(groups, c.r)...)
		wantState(t, name+", its copy", y, groups...)
		wantServed(t, name+", its copy", y, whole...)
		if texts, e := x.Cut(c.r); len(texts) > 0 || e != api.ErrArg {
			t.Errorf("%s, once more: %q, error %d", name, texts, int(e))
		}
		spoil(texts, "spoiled")
		wantState(t, name+", with the texts changed", x, outside(groups, c.r)...)
	}
}

// P12.4: what is not served, not all of it, or may not be, is not cut.
func TestCutRefuses(t *testing.T) {
	groups := scattered(2, 10)
	served := list(from(100, 20000), from(30000, 40000), from(40000, 50000))
	x := newEngine(t, withDead(1), nil)
	serve(t, x, served, groups)
	was := state(x)
	refused := append(slices.Clone(wrong), whole[0], from(0, 100), from(99, 101), from(99, 20000), from(100, 20001), from(19999, 30001), from(20000, 30000), from(20000, 20001),
		from(100, 50000), from(29999, 50000), from(30000, 50001), from(50000, span), from(0, 1), from(span-1, span))
	for _, r := range refused {
		texts, e := x.Cut(r)
		wantError(t, fmt.Sprint("Cut of ", r), e, api.ErrArg)
		wantTexts(t, fmt.Sprint("Cut of ", r), texts, nil)
		wantState(t, fmt.Sprint("Cut of ", r), x, was...)
		wantServed(t, fmt.Sprint("Cut of ", r), x, from(100, 20000), from(30000, 50000))
	}
	if _, e := newEngine(t, confsOf(1), nil).Cut(from(0, 1)); e != api.ErrArg {
		t.Errorf("nothing is served: error %d", int(e))
	}
	for _, r := range list(from(100, 101), from(19999, 20000), from(39999, 40001), from(30000, 39999), from(40001, 50000), from(101, 19999)) {
		wantTexts(t, fmt.Sprint("Cut of ", r), cut(t, x, r), textsOf(inside(was, r)))
	}
	wantServed(t, "behind all that", x)
	wantState(t, "behind all that", x)
}

// P12.4: a group whose Dump, or name, is too long stays, and with it all others.
func TestCutOfLongGroups(t *testing.T) {
	x := newEngine(t, confsOf(2), whole)
	body := strings.Repeat("b", 1000)
	names := namesIn(low, 3)
	for i := range 3 {
		do(t, x, api.Cmd{Kind: api.CmSend, Group: names[i], Body: "short", Token: "t"})
		do(t, x, api.Cmd{Kind: api.CmSend, Queue: 1, Group: names[1], Body: body, Token: fmt.Sprint(i)})
	}
	y := x.Copy()
	if l := cut(t, y, low[0]); len(l) != 4 {
		t.Errorf("%d texts, not 4", len(l))
	}
	g, _ := x.Group(1, names[1])
	rest := maxText - len(dumpOf(g))
	// A message has seven bytes beside its body, its token four.
	for _, c := range []struct {
		size int
		want api.Errno
	}{{rest - 16, api.OK}, {rest - 11, api.OK}, {rest - 10, api.ErrLong}, {rest, api.ErrLong}, {5000, api.ErrLong}} {
		y := x.Copy()
		do(t, y, api.Cmd{Kind: api.CmSend, Queue: 1, Group: names[1], Body: strings.Repeat("c", c.size), Token: "u"})
		g, _ := y.Group(1, names[1])
		if (len(dumpOf(g)) > maxText) != (c.want == api.ErrLong) {
			t.Fatalf("a body of %d bytes makes %d bytes", c.size, len(dumpOf(g)))
		}
		was := state(y)
		_, e := y.Cut(low[0])
		wantError(t, fmt.Sprintf("a Dump of %d bytes", len(dumpOf(g))), e, c.want)
		if c.want == api.OK {
			wantServed(t, "short enough", y, high...)
			continue
		}
		texts, e := y.Cut(whole[0])
		wantError(t, "too long", e, api.ErrLong)
		wantTexts(t, "too long", texts, nil)
		wantState(t, "too long", y, was...)
		wantServed(t, "too long", y, whole...)
		wantTexts(t, "others", cut(t, y, high[0]), nil)
		wantServed(t, "others", y, low...)
	}
	for size, want := range map[int]api.Errno{maxText: api.OK, maxText + 1: api.ErrLong} {
		y := newEngine(t, confsOf(2), whole)
		do(t, y, api.Cmd{Kind: api.CmSend, Group: strings.Repeat("n", size), Body: "b"})
		was := state(y)
		_, e := y.Cut(whole[0])
		wantError(t, fmt.Sprintf("a name of %d bytes", size), e, want)
		if want != api.OK {
			wantState(t, "a long name", y, was...)
			wantServed(t, "a long name", y, whole...)
		}
	}
}

// P12.4: what Cut told, elsewhere and here again, in any order, beside what is there.
func TestPaste(t *testing.T) {
	groups := scattered(3, 20)
	for _, r := range list(from(0, span), from(0, span/2), from(20000, 50000), from(span-1, span)) {
		x := holding(t, withDead(1), groups...)
		texts := cut(t, x, r)
		name := fmt.Sprint("Paste of ", r)
		y := newEngine(t, withDead(3), nil)
		wantError(t, name, y.Paste(r, texts), api.OK)
		wantServed(t, name, y, r)
		wantState(t, name, y, inside(groups, r)...)

		slices.Reverse(texts)
		handed := slices.Clone(texts)
		wantError(t, name+", here again", x.Paste(r, texts), api.OK)
		wantTexts(t, name+", what was handed in", texts, handed)
		wantServed(t, name+", here again", x, whole...)
		wantState(t, name+", here again", x, groups...)
		spoil(texts, "spoiled")
		wantState(t, name+", with the texts changed", x, groups...)
		if n := len(inside(groups, r)); n > 0 {
			again := textsOf(inside(groups, r))
			z := newEngine(t, withDead(1), nil)
			wantError(t, name+", a part of a list", z.Paste(r, again[:n-1]), api.OK)
			wantState(t, name+", a part of a list", z, inside(groups, r)[:n-1]...)
		}
	}
}

// P12.4: a range without groups, and ranges that touch what is served.
func TestPasteOfNoGroups(t *testing.T) {
	x := newEngine(t, confsOf(1), list(from(10, 20), from(40, 50)))
	for _, c := range []struct {
		r      api.Range
		served []api.Range
	}{
		{from(20, 30), list(from(10, 30), from(40, 50))}, {from(5, 10), list(from(5, 30), from(40, 50))}, {from(60, 70), list(from(5, 30), from(40, 50), from(60, 70))},
		{from(30, 40), list(from(5, 50), from(60, 70))}, {from(0, 5), list(from(0, 50), from(60, 70))}, {from(70, span), list(from(0, 50), from(60, span))}, {from(50, 60), whole},
	} {
		wantError(t, fmt.Sprint("Paste of ", c.r), x.Paste(c.r, nil), api.OK)
		wantServed(t, fmt.Sprint("Paste of ", c.r), x, c.served...)
	}
	wantState(t, "behind all that", x)
}

// wantNoPaste checks that nothing is pasted, and nothing changed.
func wantNoPaste(t *testing.T, name string, x *queue.Engine, r api.Range, texts ...string) {
	t.Helper()
	was, served := state(x), x.Served()
	wantError(t, name, x.Paste(r, texts), api.ErrArg)
	wantState(t, name, x, was...)
	wantServed(t, name, x, served...)
	// Nothing of it comes to light when those places are served.
	y := x.Copy()
	for _, free := range runs(func(p int) bool { return !has(served, p) }) {
		wantError(t, name+", then nothing", y.Paste(free, nil), api.OK)
	}
	wantState(t, name+", then nothing", y, was...)
}

// P12.4: ranges that may not be, or meet what is served.
func TestPasteRefusesRanges(t *testing.T) {
	x := newEngine(t, withDead(1), nil)
	serve(t, x, list(from(100, 20000), from(30000, 40000)), scattered(2, 10))
	for _, r := range append(slices.Clone(wrong), whole[0], from(100, 20000), from(0, 101), from(19999, 20001), from(5000, 5001), from(20000, 30001), from(39999, 40000), from(99, 20001), from(0, span-1)) {
		wantNoPaste(t, fmt.Sprint("Paste of ", r), x, r)
	}
	for _, r := range list(from(0, 100), from(20000, 30000), from(40000, span)) {
		wantError(t, fmt.Sprint("Paste of ", r), x.Paste(r, nil), api.OK)
	}
}

// P12.4: texts that are cut anywhere, have something behind, or are wrong in some part; alone, and beside right ones.
func TestPasteRefusesTexts(t *testing.T) {
	name := namesIn(low, 2)[1]
	whole := textOf(entry{1, name, full(3)})
	bad := []string{whole + "\x00", whole + "more", whole + whole, "\x80\x00" + whole[1:], "\xff\xff\xff\xff\xff\xff\xff\xff\xff\x01" + whole[1:]}
	for i := range len(whole) {
		bad = append(bad, whole[:i])
	}
	dump := dumpOf(full(3))
	for i := range len(dump) {
		bad = append(bad, num(1)+text(name)+text(dump[:i]))
	}
	bad = append(bad,
		num(1)+text(name)+text(dump+"\x00"), num(1)+text(name)+text(dump+"\x80"), num(1)+text(name)+dump, num(1)+name+text(dump), text(name)+text(dump),
		num(1)+text(name)+text(num(1)+num(1025)+strings.Repeat("\x00", 3000)), num(1)+text(name)+num(4097)+strings.Repeat("\x00", 4097), num(1)+num(4097)+strings.Repeat("n", 4097)+text(dump),
		num(1)+text(name)+text("\x80\x00"+dump), text(dump)+text(name)+num(1))
	other := textOf(entry{0, namesIn(low, 1)[0], full(1)})
	for i, s := range bad {
		x := holding(t, withDead(1), scattered(3, 10)...)
		narrow(t, x, high)
		wantNoPaste(t, fmt.Sprintf("text %d, %q", i, s), x, low[0], s)
		wantNoPaste(t, fmt.Sprintf("text %d, %q, first", i, s), x, low[0], s, other)
		wantNoPaste(t, fmt.Sprintf("text %d, %q, last", i, s), x, low[0], other, s)
		wantError(t, "the right ones", x.Paste(low[0], []string{other, whole}), api.OK)
	}
}

// P12.4: queues that there are not, places that are elsewhere, and one name twice.
func TestPasteRefusesGroups(t *testing.T) {
	here, there := namesIn(low, 2), namesIn(high, 1)[0]
	right := textOf(entry{0, here[0], full(1)})
	x := newEngine(t, withDead(1), nil)
	for _, q := range []int{3, 4, 6, 127, 128, maxTime, 1 << 62} {
		wantNoPaste(t, fmt.Sprint("queue ", q), x, low[0], textOf(entry{q, here[0], full(1)}))
		wantNoPaste(t, fmt.Sprint("queue ", q), x, low[0], right, textOf(entry{q, here[1], full(1)}))
	}
	wantNoPaste(t, "elsewhere", x, low[0], textOf(entry{0, there, full(1)}))
	wantNoPaste(t, "elsewhere", x, low[0], right, textOf(entry{0, there, full(1)}))
	wantNoPaste(t, "elsewhere", x, high[0], right)
	p := placeOf(here[0])
	wantNoPaste(t, "just behind it", x, from(p+1, span), right)
	wantNoPaste(t, "just ahead of it", x, from(0, p), right)
	wantNoPaste(t, "twice", x, low[0], right, right)
	wantNoPaste(t, "twice, as another group", x, low[0], right, textOf(entry{1, here[0], full(1)}), textOf(entry{0, here[0], full(2)}))
	wantError(t, "that place alone", x.Copy().Paste(from(p, p+1), []string{right}), api.OK)
	l := []entry{{0, here[0], full(1)}, {0, here[1], full(4)}, {1, here[0], full(2)}, {2, here[0], full(3)}}
	wantError(t, "one name of each queue", x.Paste(low[0], textsOf(l)), api.OK)
	wantState(t, "one name of each queue", x, l...)
}

// P12.4: groups as a Dump may tell them, though no command makes such: more messages than a group may keep, and none at all.
func TestPasteOfStrangeGroups(t *testing.T) {
	l := []entry{
		{0, "a", api.Group{}}, {0, "b", of(many(40, 5)...)},
		{1, "a", api.Group{Next: 1 << 62, Kept: []api.Kept{{Seq: 1 << 62, Sent: 1 << 62, Count: 1 << 62, Until: 1 << 62, From: 1 << 62}}}},
		{1, "b", of(many(13, 5)...)}, {1, "c", api.Group{Next: 1, Marks: make([]api.Mark, 1024)}}}
	x := holding(t, withDead(1), l...)
	wantState(t, "pasted", x, l...)
	wantTexts(t, "cut", cut(t, x.Copy(), whole[0]), textsOf(l))
	for kind := range 7 {
		for _, name := range []string{"a", "b", "c"} {
			for q := range 2 {
				for _, seq := range []int{1, 1 << 62} {
					y := x.Copy()
					do(t, y, api.Cmd{Kind: kind, Time: maxTime, Queue: q, Group: name, Max: 10, Receipt: receipt(q, name, seq, seq)})
				}
			}
		}
	}
}

// P12.4: commands to a copy and to what it was made of, cuts and pastes too, are apart.
func TestCopy(t *testing.T) {
	groups := scattered(3, 12)
	x := holding(t, withDead(1), groups...)
	y := x.Copy()
	wantState(t, "a copy", y, groups...)
	wantServed(t, "a copy", y, whole...)
	for _, c := range []api.Cmd{
		{Kind: api.CmSend, Group: "new", Body: "b"}, {Kind: api.CmPurge, Time: maxTime}, {Kind: api.CmReceive, Time: 1 << 14, Queue: 1, Max: 10, Secs: 9},
		{Kind: api.CmDelete, Receipt: receipt(2, groups[len(groups)-1].name, 1, 3)}, {Kind: api.CmChange, Receipt: receipt(2, groups[len(groups)-2].name, 1, 3)},
	} {
		for _, pair := range [][2]*queue.Engine{{x, y}, {y, x}} {
			left, was := state(pair[1]), state(pair[0])
			pair[0].Do(c, nil)
			wantState(t, fmt.Sprintf("%+v of the other one", c), pair[1], left...)
			if slices.EqualFunc(state(pair[0]), was, sameEntry) {
				t.Errorf("%+v: nothing has changed", c)
			}
		}
		wantState(t, fmt.Sprintf("%+v of both", c), x, state(y)...)
	}
	was := state(y)
	texts := cut(t, x, low[0])
	wantState(t, "with the other one cut", y, was...)
	wantServed(t, "with the other one cut", y, whole...)
	z := x.Copy()
	wantServed(t, "a copy of what was cut", z, high...)
	wantError(t, "Paste", x.Paste(low[0], texts), api.OK)
	wantServed(t, "with the other one pasted", z, high...)
	wantState(t, "with the other one pasted", z, outside(was, low[0])...)
	wantState(t, "pasted", x, was...)
}

// P12.4: a copy has its queues, too: what lives how long, and where it dies.
func TestCopyHasItsQueues(t *testing.T) {
	x := holding(t, withDead(1), entry{0, "g", of(given(1, 0, 1, 5), waiting(2, 0))}).Copy()
	wantReply(t, "no queue 3", x.Do(api.Cmd{Kind: api.CmPurge, Queue: 3}, nil), api.Reply{Err: api.ErrQueue})
	x.Do(api.Cmd{Kind: api.CmReceive, Time: 999, Max: 5}, nil)
	wantState(t, "a copy", x, entry{0, "g", of(given(2, 0, 1, 999))}, entry{1, "g", of(api.Kept{Seq: 1, Sent: 999, Body: "body 1"})})
}
