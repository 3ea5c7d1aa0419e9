package queue_test

import (
	"fmt"
	"math"
	"slices"
	"testing"

	"raceway/api"
	"raceway/queue"
)

func wantNew(t *testing.T, name string, confs []api.Queue, served []api.Range, want api.Errno) {
	t.Helper()
	wasConfs, wasServed := slices.Clone(confs), slices.Clone(served)
	x, e := queue.New(confs, served)
	wantError(t, name, e, want)
	if (x != nil) != (want == api.OK) {
		t.Errorf("%s: error %d, and the engine %v", name, int(e), x)
	}
	if !slices.Equal(confs, wasConfs) || !slices.Equal(served, wasServed) {
		t.Errorf("%s: what was handed in is changed: %v, %v", name, confs, served)
	}
	if want == api.OK && len(state(x)) > 0 {
		t.Errorf("%s: it has groups: %v", name, state(x))
	}
}

func confsOf(n int) []api.Queue {
	var l []api.Queue
	for range n {
		l = append(l, plainConf())
	}
	return l
}

// P12.1: how many queues there may be; nothing need be served.
func TestNewCountsQueues(t *testing.T) {
	for n := range 12 {
		want := api.OK
		if n < 1 || n > 6 {
			want = api.ErrArg
		}
		for _, served := range [][]api.Range{nil, {}, whole, list(from(5, 6), from(1, 2))} {
			wantNew(t, fmt.Sprint(n, " queues"), confsOf(n), served, want)
		}
	}
	wantNew(t, "six, and more behind the list", confsOf(9)[:6], whole, api.OK)
	wantNew(t, "none, and some behind the list", confsOf(3)[:0], whole, api.ErrArg)
}

// P12.1: each part of a queue at its limits, wherever the queue stands.
func TestNewChecksQueues(t *testing.T) {
	for _, c := range []struct {
		name  string
		set   func(*api.Queue, int)
		right []int
		wrong []int
	}{
		{"Vis", func(q *api.Queue, n int) { q.Vis = n }, []int{0, 1, 43199, 43200}, []int{-1, -2, 43201, 1 << 40, math.MaxInt, math.MinInt}},
		{"Keep", func(q *api.Queue, n int) { q.Keep = n }, []int{1, 2, 1209599, 1209600}, []int{0, -1, 1209601, 1 << 40, math.MaxInt, math.MinInt}},
		{"Max", func(q *api.Queue, n int) { q.Max = n }, []int{0, 1, 999, 1000}, []int{-1, 1001, 1 << 40, math.MaxInt, math.MinInt}},
	} {
		for size := 1; size <= 6; size++ {
			for at := range size {
				for i, n := range slices.Concat(c.right, c.wrong) {
					confs, want := confsOf(size), api.OK
					if i >= len(c.right) {
						want = api.ErrArg
					}
					c.set(&confs[at], n)
					wantNew(t, fmt.Sprintf("%s %d of queue %d of %d", c.name, n, at, size), confs, whole, want)
				}
			}
		}
	}
}

// P12.1: dead letters go into another queue that there is, or there are none.
func TestNewChecksDead(t *testing.T) {
	for size := 1; size <= 6; size++ {
		for at := range size {
			for _, dead := range []int{math.MinInt, -2, -1, 0, 1, 2, 3, 4, 5, 6, 7, math.MaxInt} {
				confs, want := confsOf(size), api.ErrArg
				confs[at].Dead = dead
				if dead == -1 || dead >= 0 && dead < size && dead != at {
					want = api.OK
				}
				wantNew(t, fmt.Sprintf("Dead %d of queue %d of %d", dead, at, size), confs, whole, want)
			}
		}
	}
	circle := confsOf(2)
	circle[0].Dead, circle[1].Dead = 1, 0
	wantNew(t, "two that are each other's", circle, whole, api.OK)
}

// P12.1: ranges that may not be, that touch, and that meet.
func TestNewChecksServed(t *testing.T) {
	for _, l := range [][]api.Range{
		nil, {}, whole, list(from(0, 1)), list(from(span-1, span)), list(from(0, 5), from(5, span)), list(from(5, span), from(0, 5)),
		list(from(10, 20), from(0, 5), from(30, 40)), list(from(0, 5), from(6, 7), from(5, 6)), list(from(0, 5), from(20, 30), from(5, 20)),
	} {
		wantNew(t, fmt.Sprint("right ", l), confsOf(1), l, api.OK)
	}
	for _, l := range [][]api.Range{
		list(from(0, span), from(0, span)), list(from(0, 5), from(4, 8)), list(from(4, 8), from(0, 5)), list(from(0, 5), from(0, 5)), list(from(0, 9), from(3, 4)),
		list(from(3, 4), from(0, 9)), list(from(0, 5), from(20, 30), from(4, 6)), list(from(0, span), from(span-1, span)), list(from(0, 1), from(0, span)),
		list(from(0, 10), from(20, 30), from(30, 40), from(9, 10)), slices.Repeat(whole, 1000),
	} {
		wantNew(t, fmt.Sprint("meeting ", l), confsOf(1), l, api.ErrArg)
	}
	for _, r := range wrong {
		wantNew(t, fmt.Sprint("alone ", r), confsOf(1), list(r), api.ErrArg)
		wantNew(t, fmt.Sprint("first ", r), confsOf(1), list(r, from(20, 30)), api.ErrArg)
		wantNew(t, fmt.Sprint("last ", r), confsOf(1), list(from(20, 30), r), api.ErrArg)
	}
	wantNew(t, "nothing right", nil, wrong, api.ErrArg)
}

// P12.1: one range for each place, and one more: no square of them is gone through.
func TestNewOfManyRanges(t *testing.T) {
	var each []api.Range
	for p := range span {
		each = append(each, from(p, p+1))
	}
	slices.Reverse(each)
	wantNew(t, "each place", confsOf(1), each, api.OK)
	wantServed(t, "each place", newEngine(t, confsOf(1), each), whole...)
	wantNew(t, "each place, and one twice", confsOf(1), append(each, from(7, 8)), api.ErrArg)
	wantNew(t, "all, and each place", confsOf(1), append(each, whole...), api.ErrArg)
}

// P12.1: what was handed in is not kept.
func TestNewKeepsNothing(t *testing.T) {
	confs, served := withDead(1), list(from(0, 5), from(10, 20))
	x := newEngine(t, confs, served)
	served[0], served[1] = from(7, 8), from(30, 40)
	wantServed(t, "with the ranges changed", x, from(0, 5), from(10, 20))

	name := "g"
	x = newEngine(t, confs, whole)
	spoil(confs, api.Queue{Dead: -1})
	do(t, x, api.Cmd{Kind: api.CmSend, Group: name, Body: "b"})
	do(t, x, api.Cmd{Kind: api.CmReceive, Time: 10, Max: 1, Secs: 5})
	do(t, x, api.Cmd{Kind: api.CmReceive, Time: 20, Max: 1, Secs: 5})
	if g, ok := x.Group(1, name); !ok || len(g.Kept) != 1 {
		t.Errorf("with the queues changed, there are no dead letters: %v", state(x))
	}
}

// P12.3: what is served, as few ranges as can be, rising; what is told is new memory.
func TestServed(t *testing.T) {
	for _, c := range []struct{ served, want []api.Range }{
		{nil, nil}, {whole, whole}, {list(from(5, 10), from(0, 5)), list(from(0, 10))}, {list(from(8, 9), from(0, 5)), list(from(0, 5), from(8, 9))},
		{list(from(6, 7), from(0, 5), from(5, 6), from(span-1, span)), list(from(0, 7), from(span-1, span))},
	} {
		x := newEngine(t, confsOf(2), c.served)
		wantServed(t, "at first", x, c.want...)
		spoil(x.Served(), stray)
		wantServed(t, "with what was told changed", x, c.want...)
		spoil(x.Copy().Served(), stray)
		wantServed(t, "with what its copy told changed", x, c.want...)
		wantServed(t, "its copy", x.Copy(), c.want...)
	}
}

// P12.3: names, byte by byte, of each queue for itself; nothing of a queue that there is not.
func TestGroups(t *testing.T) {
	x := newEngine(t, confsOf(3), whole)
	names := []string{"b", "a", "\xff", "ab", "a\x00", "B", "é", "10", "9", "aa", "\x00", "b "}
	for i, name := range names {
		do(t, x, api.Cmd{Kind: api.CmSend, Queue: i % 2 * 2, Group: name, Body: "b"})
	}
	for q, want := range [][]string{{"9", "a\x00", "b", "é", "\x00", "\xff"}, nil, {"10", "B", "a", "aa", "ab", "b "}} {
		// Told out of a map, they would stand in any order.
		for range 20 {
			got := slices.Clone(x.Groups(q))
			slices.Sort(want)
			if !slices.Equal(got, want) {
				t.Fatalf("queue %d has %q, not %q", q, got, want)
			}
		}
	}
	spoil(x.Groups(0), "spoiled")
	if slices.Contains(x.Groups(0), "spoiled") {
		t.Error("the names that were told are the engine's own")
	}
	for _, q := range []int{math.MinInt, -1, 3, 6, math.MaxInt} {
		if l := x.Groups(q); len(l) > 0 {
			t.Errorf("queue %d has %q", q, l)
		}
		if g, ok := x.Group(q, "a"); ok || !same(g, api.Group{}) {
			t.Errorf("queue %d has %v", q, g)
		}
	}
}

// P12.3: a group as it is, with nothing too old taken out of it, in memory of its own.
func TestGroup(t *testing.T) {
	g := api.Group{Next: 9, Kept: []api.Kept{waiting(1, 0), given(7, 5, 3, 900)}, Marks: []api.Mark{{Token: "t", Seq: 1, At: 2}, {Token: "u", Seq: 7, At: 3}}, Attempt: "try"}
	x := holding(t, withDead(1), entry{0, "g", g}, entry{2, "g", of()})
	do(t, x, api.Cmd{Kind: api.CmNothing, Time: maxTime})
	for range 2 {
		got, ok := x.Group(0, "g")
		if !ok || !same(got, g) {
			t.Fatalf("it is %v, %t, not %v", got, ok, g)
		}
		spoil(got.Kept, api.Kept{Body: "spoiled"})
		spoil(got.Marks, api.Mark{Token: "spoiled"})
		other, _ := x.Copy().Group(0, "g")
		spoil(other.Kept, api.Kept{Body: "spoiled"})
		spoil(other.Marks, api.Mark{Token: "spoiled"})
	}
	if got, ok := x.Group(2, "g"); !ok || !same(got, api.Group{Next: 1}) {
		t.Errorf("an empty group is one, too: %v, %t", got, ok)
	}
	for _, at := range []entry{{queue: 1, name: "g"}, {queue: 0, name: ""}, {queue: 0, name: "G"}, {queue: 0, name: "g "}, {queue: 3, name: "g"}, {queue: -1, name: "g"}} {
		if got, ok := x.Group(at.queue, at.name); ok || !same(got, api.Group{}) {
			t.Errorf("%d, %q: %v, %t", at.queue, at.name, got, ok)
		}
	}
}

// P12.2, P12.3, P12.4: of nil, and of what New did not make.
func TestOfNothing(t *testing.T) {
	for name, x := range map[string]*queue.Engine{"nil": nil, "a plain one": {}} {
		for kind := -1; kind < 12; kind++ {
			for _, time := range []int{-1, 0, maxTime + 1} {
				c := api.Cmd{Kind: kind, Time: time, Group: "g", Max: 1}
				wantReply(t, fmt.Sprint(name, ", kind ", kind), x.Do(c, nil), api.Reply{Err: api.ErrNil})
				wantReply(t, fmt.Sprint(name, ", kind ", kind), x.Do(c, whole), api.Reply{Err: api.ErrNil})
			}
		}
		if l := x.Served(); len(l) > 0 {
			t.Errorf("%s serves %v", name, l)
		}
		for _, q := range []int{-1, 0, 1} {
			if l := x.Groups(q); len(l) > 0 {
				t.Errorf("%s has groups %v", name, l)
			}
			if g, ok := x.Group(q, "g"); ok || !same(g, api.Group{}) {
				t.Errorf("%s has the group %v", name, g)
			}
		}
		for _, r := range append(slices.Clone(wrong), whole...) {
			if l, e := x.Cut(r); len(l) > 0 || e != api.ErrNil {
				t.Errorf("%s: Cut(%v) = %v, error %d", name, r, l, int(e))
			}
			wantError(t, name+", Paste", x.Paste(r, nil), api.ErrNil)
			wantError(t, name+", Paste", x.Paste(r, []string{"wrong"}), api.ErrNil)
		}
		if y := x.Copy(); y != nil {
			t.Errorf("%s has a copy", name)
		}
		if x != nil && !slices.Equal(x.Served(), nil) {
			t.Errorf("%s serves something by now", name)
		}
	}
}

// The chapter's example.
func TestExample(t *testing.T) {
	x := newEngine(t, []api.Queue{{Vis: 30, Keep: 100, Max: 0, Dead: -1}}, whole)
	send := api.Cmd{Kind: api.CmSend, Group: "g", Body: "b", Token: "t"}
	wantReply(t, "Send", do(t, x, send), api.Reply{Seq: 1})
	wantReply(t, "Receive", do(t, x, api.Cmd{Kind: api.CmReceive, Max: 1, Secs: 5}),
		api.Reply{Got: []api.Got{{Receipt: receipt(0, "g", 1, 1), Body: "b"}}, About: whole})
	l, e := x.Cut(whole[0])
	if len(l) != 1 || e != api.OK {
		t.Errorf("Cut: %q, error %d", l, int(e))
	}
	wantReply(t, "Send then", do(t, x, send), api.Reply{Err: api.ErrMoved})
}
