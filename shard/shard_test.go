package shard_test

import (
	"fmt"
	"math"
	"slices"
	"testing"

	"raceway/api"
	"raceway/queue"
	"raceway/shard"
)

// P14.1
func TestNew(t *testing.T) {
	for _, served := range [][]api.Range{nil, none, whole, low, list(from(5, 6)), list(from(20, 30), from(0, 10), from(10, 20)), list(from(0, 1), from(span-1, span))} {
		for _, confs := range [][]api.Queue{{plainConf()}, withDead(1), slices.Repeat([]api.Queue{plainConf()}, 6)} {
			s := newShard(t, confs, served)
			x, _ := queue.New(confs, served)
			wantPicture(t, fmt.Sprint("New of ", served), s, picture{served: x.Served()})
		}
	}
}

// P14.1: queue.New's error, and no shard.
func TestNewRefuses(t *testing.T) {
	bad := [][]api.Queue{nil, {}, slices.Repeat([]api.Queue{plainConf()}, 7)}
	for _, change := range []func(q *api.Queue){
		func(q *api.Queue) { q.Vis = -1 }, func(q *api.Queue) { q.Vis = 43201 }, func(q *api.Queue) { q.Keep = 0 }, func(q *api.Queue) { q.Keep = 1209601 },
		func(q *api.Queue) { q.Max = -1 }, func(q *api.Queue) { q.Max = 1001 }, func(q *api.Queue) { q.Dead = 0 }, func(q *api.Queue) { q.Dead = 1 }, func(q *api.Queue) { q.Dead = math.MinInt },
	} {
		q := plainConf()
		change(&q)
		bad = append(bad, []api.Queue{q})
	}
	for _, confs := range bad {
		for _, served := range [][]api.Range{nil, whole, wrongRanges} {
			if s, e := shard.New(confs, served); s != nil || e != api.ErrArg {
				t.Errorf("New(%v, %v): %v, error %d", confs, served, s, int(e))
			}
		}
		if s, e := shard.Load(confs, []string{nums(0, 0, 0, 0)}); s != nil || e != api.ErrArg {
			t.Errorf("Load(%v): %v, error %d", confs, s, int(e))
		}
		// The confs go ahead of what the list is.
		if s, e := shard.Load(confs, nil); s != nil || e != api.ErrArg {
			t.Errorf("Load(%v) of nothing: %v, error %d", confs, s, int(e))
		}
	}
	for _, r := range append(slices.Clone(wrongRanges), from(-1, 5), from(math.MinInt, math.MaxInt)) {
		for _, served := range [][]api.Range{list(r), list(from(50, 60), r), list(r, from(50, 60))} {
			if s, e := shard.New([]api.Queue{plainConf()}, served); s != nil || e != api.ErrArg {
				t.Errorf("New(%v): %v, error %d", served, s, int(e))
			}
		}
	}
	for _, served := range [][]api.Range{list(from(0, 10), from(9, 20)), list(from(5, 6), from(5, 6)), list(from(5, 6), whole[0])} {
		if s, e := shard.New([]api.Queue{plainConf()}, served); s != nil || e != api.ErrArg {
			t.Errorf("New(%v): %v, error %d", served, s, int(e))
		}
	}
}

// P14.2, P14.3, P14.5: of nil, and of what New did not make.
func TestNoShard(t *testing.T) {
	right := value(api.Cmd{Kind: api.CmSend, Client: 1, Num: 1, Time: 5, Group: "g", Body: "b"})
	for i, s := range []*shard.Shard{nil, {}, new(shard.Shard)} {
		for _, v := range [][]byte{nil, {}, {1}, right, value(api.Cmd{Kind: api.CmFreeze, Range: whole[0]}), value(api.Cmd{Kind: api.CmImport, Range: whole[0], Data: []string{"\x00"}}), value(api.Cmd{Time: 9})} {
			for range 2 {
				wantDone(t, fmt.Sprint("no shard ", i), s.Apply(v), api.Done{})
			}
		}
		if s.Slots() != 0 || s.Now() != 0 || s.Engine() != nil || s.Sessions() != nil || s.Copy() != nil {
			t.Errorf("no shard %d: %d slots, time %d, %v, %v, %v", i, s.Slots(), s.Now(), s.Engine(), s.Sessions(), s.Copy())
		}
		if l, e := s.Dump(); len(l) > 0 || e != api.ErrNil {
			t.Errorf("no shard %d: Dump tells %q, error %d", i, l, int(e))
		}
	}
}

// The chapter's example.
func TestExample(t *testing.T) {
	s := newShard(t, []api.Queue{plainConf()}, whole)
	c := api.Cmd{Kind: api.CmSend, Client: 1, Num: 1, Time: 5, Group: "g", Body: "b"}
	wantDone(t, "first", do(t, s, c), api.Done{Slot: 0, Time: 5, Cmd: c, Reply: api.Reply{Seq: 1}, Fresh: true})
	wantDone(t, "second", do(t, s, c), api.Done{Slot: 1, Time: 5, Cmd: c, Reply: api.Reply{Seq: 1}})
	if g, _ := s.Engine().Group(0, "g"); len(g.Kept) != 1 {
		t.Errorf("it has %v", g)
	}
}

// busy is a shard to which something of all was applied.
func busy(t *testing.T) *shard.Shard {
	t.Helper()
	s := holding(t, list(low[0], from(40000, span)), clients(3, 9), inside(scattered(9), low[0], from(40000, span)))
	for i, name := range namesIn(low, 4) {
		did(t, s, api.Cmd{Kind: api.CmSend, Client: i + 2, Num: 10, Time: 100 + i, Group: name, Body: "new", Token: "u"})
	}
	did(t, s, api.Cmd{Kind: api.CmFreeze, Client: 20, Num: 1, Time: 110, Range: from(0, 10000)})
	did(t, s, api.Cmd{Kind: api.CmReceive, Client: 21, Num: 1, Time: 111, Max: 4, Secs: 50, Attempt: "q"})
	return s
}

// P14.3: what is done with what Engine and Sessions tell leaves the shard as it was.
func TestEngineAndSessionsAreCopies(t *testing.T) {
	s := busy(t)
	was := pictureOf(s)
	x, table := s.Engine(), s.Sessions()
	if _, e := x.Cut(from(40000, 50000)); e != api.OK {
		t.Fatalf("Cut: error %d", int(e))
	}
	name := namesIn(list(from(10000, span/2)), 1)[0]
	wantError(t, "Send", x.Do(api.Cmd{Kind: api.CmSend, Time: 120, Group: name, Body: "other"}, nil).Err, api.OK)
	wantError(t, "Paste", x.Paste(from(0, 5000), nil), api.OK)
	wantError(t, "Note", table.Note(2, 11, api.Reply{N: 7}), api.OK)
	wantError(t, "Note", table.Note(60, 1, api.Reply{}), api.OK)
	wantError(t, "Merge", table.Merge([]string{askedText(asked{3, 90, api.Reply{}})}), api.OK)
	wantPicture(t, "what was told is changed", s, was)
	d := do(t, s, api.Cmd{Kind: api.CmSend, Client: 2, Num: 11, Group: name, Body: "one more", Token: "v"})
	if !d.Fresh || d.Reply.Err != api.OK {
		t.Errorf("Send behind that: %s", brief(d))
	}
	if r, known, _ := table.Look(2, 11); !known || r.N != 7 || !slices.Equal(x.Served(), list(from(0, 5000), from(10000, span/2), from(50000, span))) {
		t.Errorf("what was told follows the shard: %v, %s", x.Served(), brief(r))
	}
}

// P14.3: values that are applied to a copy, and to what it was made of, are apart.
func TestCopy(t *testing.T) {
	s := busy(t)
	name := namesIn(list(from(10000, span/2)), 1)[0]
	for i, c := range []api.Cmd{
		{Kind: api.CmSend, Client: 40, Num: 1, Time: 300, Group: name, Body: "b"},
		{Kind: api.CmPurge, Client: 40, Num: 2, Time: 310},
		{Kind: api.CmReceive, Time: 400, Max: 10, Queue: 2, Secs: 5},
		{Kind: api.CmFreeze, Client: 41, Num: 1, Range: from(20000, 30000)},
		{Kind: api.CmImport, Client: 42, Num: 1, Range: from(0, 10000), Data: packed(clients(30, 1), nil)},
		{Kind: api.CmNothing, Time: 500},
	} {
		for _, isCopyFirst := range []bool{false, true} {
			one, other := s.Copy(), s.Copy().Copy()
			if isCopyFirst {
				one, other = other, one
			}
			was := pictureOf(s)
			wantPicture(t, "a copy", one, was)
			d := one.Apply(value(c))
			if d.Reply.Err != api.OK {
				t.Errorf("command %d: error %d", i, int(d.Reply.Err))
			}
			wantPicture(t, fmt.Sprint("command ", i, " on another one"), other, was)
			wantPicture(t, fmt.Sprint("command ", i, " on another one"), s, was)
			wantDone(t, fmt.Sprint("command ", i, " later"), other.Apply(value(c)), d)
			wantPicture(t, fmt.Sprint("command ", i, " on both"), other, pictureOf(one))
		}
	}
}

// P14.3: slots and the time, value by value.
func TestSlotsAndNow(t *testing.T) {
	s := newShard(t, []api.Queue{plainConf()}, whole)
	for i, c := range []struct{ time, now int }{{0, 0}, {5, 5}, {5, 5}, {3, 5}, {0, 5}, {6, 6}, {maxTime - 1, maxTime - 1}, {7, maxTime - 1}, {maxTime, maxTime}, {0, maxTime}} {
		if s.Slots() != i {
			t.Errorf("%d slots, not %d", s.Slots(), i)
		}
		do(t, s, api.Cmd{Time: c.time})
		if s.Now() != c.now {
			t.Errorf("value %d: the time is %d, not %d", i, s.Now(), c.now)
		}
	}
}
