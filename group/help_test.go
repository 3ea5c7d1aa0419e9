package group_test

import (
	"fmt"
	"slices"
	"testing"

	"raceway/api"
	"raceway/group"
)

// The document's limits, apart from the package that is tested.
const (
	maxKept   = 12
	maxTokens = 40
	window    = 300
	maxTime   = 1 << 40
)

// strayKept and strayMark lie behind the lists that are handed in: no call may read, write or hand them out.
var (
	strayKept = api.Kept{Seq: 77777, Sent: 77777, Count: 77777, Until: 77777, From: 77777, Body: "stray"}
	strayMark = api.Mark{Token: "stray", Seq: 77777, At: 77777}
)

// told is what a call told: a group, and lists of messages beside it.
type told struct {
	g     api.Group
	lists [][]api.Kept
}

// same holds groups against each other without the package's help.
func same(a, b api.Group) bool {
	return a.Next == b.Next && a.Attempt == b.Attempt && slices.Equal(a.Kept, b.Kept) && slices.Equal(a.Marks, b.Marks)
}

func sameTold(a, b told) bool {
	return same(a.g, b.g) && slices.EqualFunc(a.lists, b.lists, slices.Equal[[]api.Kept])
}

// within gives a list that has stray items behind its length.
func within[T any](l []T, stray T) []T {
	return append(slices.Clone(l), stray, stray, stray)[:len(l)]
}

// intact tells whether a list that within gave, and what lies behind it, is as it was.
func intact[T comparable](l, was []T, stray T) bool {
	return slices.Equal(l[:len(l)+3], append(slices.Clone(was), stray, stray, stray))
}

// spoil writes over all the memory that a list has.
func spoil[T any](l []T, stray T) {
	l = l[:cap(l)]
	for i := range l {
		l[i] = stray
	}
}

func (x told) copy() told {
	other := told{g: x.g}
	other.g.Kept, other.g.Marks = slices.Clone(x.g.Kept), slices.Clone(x.g.Marks)
	for _, l := range x.lists {
		other.lists = append(other.lists, slices.Clone(l))
	}
	return other
}

// hasStray tells whether what lay behind the lists that were handed in lies in the memory of what was told.
func (x told) hasStray() bool {
	for _, l := range append(slices.Clone(x.lists), x.g.Kept) {
		if slices.Contains(l[:cap(l)], strayKept) {
			return true
		}
	}
	return slices.Contains(x.g.Marks[:cap(x.g.Marks)], strayMark)
}

// spoilers has, for each list of what was told, what writes over all of its memory and lets it go.
func (x *told) spoilers() []func() {
	l := []func(){
		func() { spoil(x.g.Kept, strayKept); x.g.Kept = nil },
		func() { spoil(x.g.Marks, strayMark); x.g.Marks = nil },
	}
	for i := range x.lists {
		l = append(l, func() { spoil(x.lists[i], strayKept); x.lists[i] = nil })
	}
	return l
}

// checked does a call some times, and looks whether it leaves what is handed in as it was, tells the same each time, and hands out lists that are apart from all others.
func checked(t *testing.T, name string, g api.Group, in []api.Kept, call func(api.Group, []api.Kept) told) told {
	t.Helper()
	was := told{g: g, lists: [][]api.Kept{in}}.copy()
	g.Kept, g.Marks, in = within(g.Kept, strayKept), within(g.Marks, strayMark), within(in, strayKept)
	look := func(when string) {
		t.Helper()
		if !intact(g.Kept, was.g.Kept, strayKept) || !intact(g.Marks, was.g.Marks, strayMark) || !intact(in, was.lists[0], strayKept) {
			t.Fatalf("%s: %s, what was handed in is no more as it was: %v, %v", name, when, g, in)
		}
	}
	first := call(g, in)
	look("behind the call")
	if first.hasStray() {
		t.Fatalf("%s: what lay behind a list is handed out", name)
	}
	kept := first.copy()
	for i := range first.spoilers() {
		other := call(g, in)
		if !sameTold(first, other) {
			t.Fatalf("%s: it told %v, and then %v", name, first, other)
		}
		left := other.copy()
		left.spoilers()[i]()
		other.spoilers()[i]()
		look("with what was told changed")
		if !sameTold(other, left) || !sameTold(first, kept) {
			t.Fatalf("%s: lists that were told share memory: %v, not %v; %v, not %v", name, other, left, first, kept)
		}
	}
	return first
}

// The calls, checked.

func expire(t *testing.T, g api.Group, now, keep int) api.Group {
	t.Helper()
	return checked(t, "Expire", g, nil, func(g api.Group, _ []api.Kept) told {
		return told{g: group.Expire(g, now, keep)}
	}).g
}

func flying(t *testing.T, g api.Group, now int) (yes bool) {
	t.Helper()
	checked(t, "Flying", g, nil, func(g api.Group, _ []api.Kept) told {
		yes = group.Flying(g, now)
		return told{}
	})
	return yes
}

func send(t *testing.T, g api.Group, now, from int, body, token string) (out api.Group, seq int, e api.Errno) {
	t.Helper()
	out = checked(t, "Send", g, nil, func(g api.Group, _ []api.Kept) told {
		var x told
		x.g, seq, e = group.Send(g, now, from, body, token)
		return x
	}).g
	return out, seq, e
}

func receive(t *testing.T, g api.Group, now, max, secs, most, room int) (out api.Group, got, dead []api.Kept) {
	t.Helper()
	x := checked(t, "Receive", g, nil, func(g api.Group, _ []api.Kept) told {
		out, got, dead := group.Receive(g, now, max, secs, most, room)
		return told{out, [][]api.Kept{got, dead}}
	})
	return x.g, x.lists[0], x.lists[1]
}

func again(t *testing.T, g api.Group, now, max int, attempt string) []api.Kept {
	t.Helper()
	return checked(t, "Again", g, nil, func(g api.Group, _ []api.Kept) told {
		return told{lists: [][]api.Kept{group.Again(g, now, max, attempt)}}
	}).lists[0]
}

func remove(t *testing.T, g api.Group, now, seq, count int) (out api.Group, e api.Errno) {
	t.Helper()
	out = checked(t, "Delete", g, nil, func(g api.Group, _ []api.Kept) told {
		var x told
		x.g, e = group.Delete(g, now, seq, count)
		return x
	}).g
	return out, e
}

func change(t *testing.T, g api.Group, now, seq, count, secs int) (out api.Group, e api.Errno) {
	t.Helper()
	out = checked(t, "Change", g, nil, func(g api.Group, _ []api.Kept) told {
		var x told
		x.g, e = group.Change(g, now, seq, count, secs)
		return x
	}).g
	return out, e
}

func purge(t *testing.T, g api.Group) (out api.Group, n int) {
	t.Helper()
	out = checked(t, "Purge", g, nil, func(g api.Group, _ []api.Kept) told {
		var x told
		x.g, n = group.Purge(g)
		return x
	}).g
	return out, n
}

func take(t *testing.T, g api.Group, now, own, n, room int) (out api.Group, l []api.Kept, e api.Errno) {
	t.Helper()
	x := checked(t, "Take", g, nil, func(g api.Group, _ []api.Kept) told {
		var x told
		x.g, l, e = group.Take(g, now, own, n, room)
		x.lists = [][]api.Kept{l}
		return x
	})
	return x.g, x.lists[0], e
}

func put(t *testing.T, g api.Group, now int, l []api.Kept) api.Group {
	t.Helper()
	return checked(t, "Put", g, l, func(g api.Group, l []api.Kept) told {
		return told{g: group.Put(g, now, l)}
	}).g
}

func dump(t *testing.T, g api.Group) (s string, e api.Errno) {
	t.Helper()
	checked(t, "Dump", g, nil, func(g api.Group, _ []api.Kept) told {
		s, e = group.Dump(g)
		return told{}
	})
	return s, e
}

func load(t *testing.T, s string) (g api.Group, e api.Errno) {
	t.Helper()
	g = checked(t, "Load", api.Group{}, nil, func(api.Group, []api.Kept) told {
		var x told
		x.g, e = group.Load(s)
		return x
	}).g
	return g, e
}

// What is wanted.

func wantGroup(t *testing.T, name string, got, want api.Group) {
	t.Helper()
	if !same(got, want) {
		t.Errorf("%s: the group is\n%v, not\n%v", name, got, want)
	}
}

func wantList(t *testing.T, name string, got, want []api.Kept) {
	t.Helper()
	if !slices.Equal(got, want) {
		t.Errorf("%s:\n%v, not\n%v", name, got, want)
	}
}

func wantError(t *testing.T, name string, got, want api.Errno) {
	t.Helper()
	if got != want {
		t.Errorf("%s: error %d, not %d", name, int(got), int(want))
	}
}

// msg is a message with a body that is told by its number, sent at 10 times that by queue 0.
func msg(seq, count, until int) api.Kept {
	return api.Kept{Seq: seq, Sent: 10 * seq, Count: count, Until: until, Body: fmt.Sprintf("body %d", seq)}
}

// from is a message that came from a queue.
func from(seq, queue int) api.Kept {
	m := msg(seq, 0, 0)
	m.From = queue
	return m
}

// of is a group that has those messages, a token and an attempt.
func of(l ...api.Kept) api.Group {
	g := api.Group{Next: 1, Kept: l, Marks: []api.Mark{{Token: "old", Seq: 0, At: 3}}, Attempt: "try"}
	for _, m := range l {
		g.Next = max(g.Next, m.Seq+1)
	}
	return g
}

// with is a group that has other messages.
func with(g api.Group, l ...api.Kept) api.Group {
	g.Kept = l
	return g
}

// waiting gives so many messages that nobody got yet.
func waiting(n int) []api.Kept {
	var l []api.Kept
	for i := range n {
		l = append(l, msg(i+1, 0, 0))
	}
	return l
}

// tokens gives so many tokens.
func tokens(n int) []api.Mark {
	var l []api.Mark
	for i := range n {
		l = append(l, api.Mark{Token: fmt.Sprintf("token %d", i), Seq: 100 + i, At: i})
	}
	return l
}
