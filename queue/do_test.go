package queue_test

import (
	"crypto/sha256"
	"fmt"
	"math"
	"slices"
	"testing"

	"raceway/api"
	"raceway/queue"
)

// right has a command of each kind that an engine does, none of which is refused by the engine that rich gives.
func right() []api.Cmd {
	return []api.Cmd{
		{Kind: api.CmNothing},
		{Kind: api.CmSend, Group: "a", Body: "new"},
		{Kind: api.CmReceive, Max: 3, Secs: 7},
		{Kind: api.CmDelete, Receipt: receipt(0, "a", 1, 1)},
		{Kind: api.CmChange, Receipt: receipt(0, "a", 1, 1), Secs: 7},
		{Kind: api.CmPurge},
		{Kind: api.CmRedrive, Queue: 1, Group: "b", Max: 3},
	}
}

// rich has something to do for each kind, at any time.
func rich(t *testing.T) *queue.Engine {
	t.Helper()
	return holding(t, withDead(3),
		entry{0, "a", of(given(1, maxTime, 1, maxTime+9), waiting(2, maxTime))},
		entry{0, "c", of(waiting(1, maxTime))},
		entry{1, "b", of(came(1, maxTime, 0), came(2, maxTime, 2))},
		entry{2, "a", of(waiting(4, maxTime))})
}

// P12.2: Time and Secs from 0 to 2^40.
func TestTimeAndSecsMayBe(t *testing.T) {
	for _, c := range right() {
		for _, time := range []int{0, 1, maxTime - 1, maxTime} {
			c.Time = time
			if r := do(t, rich(t), c); r.Err != api.OK {
				t.Errorf("%+v: error %d", c, int(r.Err))
			}
		}
	}
	for _, secs := range []int{0, 1, maxVis + 1, maxTime - 1, maxTime} {
		for _, c := range right() {
			if c.Kind == api.CmReceive || c.Kind == api.CmChange {
				continue
			}
			c.Secs = secs
			if r := do(t, rich(t), c); r.Err != api.OK {
				t.Errorf("%+v: error %d", c, int(r.Err))
			}
		}
	}
}

// P12.2: where one of them is not, that is told ahead of all else, and nothing is looked at.
func TestTimeAndSecsMayNotBe(t *testing.T) {
	for _, c := range right() {
		for _, n := range []int{math.MinInt, -1, maxTime + 1, math.MaxInt} {
			for _, set := range []func(*api.Cmd){
				func(c *api.Cmd) { c.Time = n },
				func(c *api.Cmd) { c.Secs = n },
				func(c *api.Cmd) { c.Time, c.Secs = n, n },
			} {
				c := c
				set(&c)
				x := rich(t)
				name := fmt.Sprintf("%+v", c)
				refuses(t, name, x, api.ErrArg, c)
				refuses(t, name+", about nothing", x, api.ErrArg, c, wrong...)
				c.Queue, c.Receipt.Queue = 9, 9
				refuses(t, name+", of no queue", x, api.ErrArg, c)
				c.Kind = 99
				refuses(t, name+", of no kind", x, api.ErrArg, c)
			}
		}
	}
}

// P12.2
func TestOtherKinds(t *testing.T) {
	for _, kind := range []int{math.MinInt, -1, api.CmFreeze, api.CmImport, api.CmRelease, api.CmChart, 11, 12, 1000, math.MaxInt} {
		x := rich(t)
		c := api.Cmd{Kind: kind, Time: maxTime, Group: "a", Max: 1, Range: whole[0], Receipt: receipt(0, "a", 1, 1)}
		refuses(t, fmt.Sprint("kind ", kind), x, api.ErrArg, c)
		refuses(t, fmt.Sprint("kind ", kind), x, api.ErrArg, c, whole...)
		wantServed(t, "behind that", x, whole...)
		c.Queue = 9
		refuses(t, fmt.Sprint("kind ", kind), x, api.ErrArg, c)
	}
}

// P12.2: nothing is done, and nothing looked at, whatever else the command has.
func TestNothing(t *testing.T) {
	x := holding(t, withDead(1), entry{0, "a", of(waiting(1, 0))})
	was := state(x)
	for _, c := range []api.Cmd{{}, {Time: maxTime}, {Queue: 9, Max: -1, Group: "a", Secs: maxTime}, {Queue: -1}, {Receipt: receipt(9, "", -1, -1)}} {
		wantReply(t, "CmNothing", do(t, x, c), api.Reply{})
		wantReply(t, "CmNothing", do(t, x, c, wrong...), api.Reply{})
	}
	wantState(t, "behind them", x, was...)
}

// P12.2: messages get numbers group by group, and come from their queue.
func TestSend(t *testing.T) {
	x := newEngine(t, confsOf(3), whole)
	for _, c := range []struct {
		queue, time int
		name, token string
		seq         int
	}{
		{0, 5, "a", "t", 1}, {0, 6, "a", "u", 2}, {0, 7, "b", "t", 1}, {2, 8, "a", "t", 1}, {2, 9, "a", "v", 2}, {0, 10, "a", "w", 3},
	} {
		got := do(t, x, api.Cmd{Kind: api.CmSend, Time: c.time, Queue: c.queue, Group: c.name, Body: c.token + "!", Token: c.token, Client: 3, Num: 4, Max: -1, Attempt: "p"})
		wantReply(t, fmt.Sprint(c), got, api.Reply{Seq: c.seq})
	}
	wantState(t, "behind that", x,
		entry{0, "a", api.Group{Next: 4, Kept: []api.Kept{{Seq: 1, Sent: 5, Body: "t!"}, {Seq: 2, Sent: 6, Body: "u!"}, {Seq: 3, Sent: 10, Body: "w!"}},
			Marks: []api.Mark{{Token: "t", Seq: 1, At: 5}, {Token: "u", Seq: 2, At: 6}, {Token: "w", Seq: 3, At: 10}}}},
		entry{0, "b", api.Group{Next: 2, Kept: []api.Kept{{Seq: 1, Sent: 7, Body: "t!"}}, Marks: []api.Mark{{Token: "t", Seq: 1, At: 7}}}},
		entry{2, "a", api.Group{Next: 3, Kept: []api.Kept{{Seq: 1, Sent: 8, From: 2, Body: "t!"}, {Seq: 2, Sent: 9, From: 2, Body: "v!"}},
			Marks: []api.Mark{{Token: "t", Seq: 1, At: 8}, {Token: "v", Seq: 2, At: 9}}}})
}

// P12.2: a token is one message's, for 300 seconds; without one it is the body's.
func TestSendOfTokens(t *testing.T) {
	x := newEngine(t, confsOf(1), whole)
	send := func(time int, body, token string, seq int) {
		t.Helper()
		got := do(t, x, api.Cmd{Kind: api.CmSend, Time: time, Group: "g", Body: body, Token: token})
		wantReply(t, fmt.Sprint(time, body, token), got, api.Reply{Seq: seq})
	}
	send(0, "b", "t", 1)
	send(1, "other", "t", 1)
	send(2, "b", "", 2)
	send(299, "other", "t", 1)
	send(300, "other", "t", 3)
	send(301, "b", "", 2)
	send(302, "b", "", 4)
	g, _ := x.Group(0, "g")
	own := fmt.Sprintf("%x", sha256.Sum256([]byte("b")))[:32]
	if len(g.Kept) != 4 || !slices.Equal(g.Marks, []api.Mark{{Token: "t", Seq: 3, At: 300}, {Token: own, Seq: 4, At: 302}}) {
		t.Errorf("it has %v", g)
	}
}

// P12.2: what is too old by the queue's own Keep goes ahead of a send, in its group alone.
func TestSendLooks(t *testing.T) {
	old := api.Group{Next: 5, Kept: []api.Kept{waiting(1, 0), waiting(2, 1), waiting(4, 2)}, Marks: []api.Mark{{Token: "t", Seq: 1, At: 0}, {Token: "u", Seq: 2, At: 801}}}
	x := holding(t, withDead(1), entry{0, "a", old}, entry{0, "b", old}, entry{1, "a", old})
	wantReply(t, "Send", do(t, x, api.Cmd{Kind: api.CmSend, Time: 1001, Group: "a", Body: "new", Token: "n"}), api.Reply{Seq: 5})
	wantState(t, "behind that", x,
		entry{0, "a", api.Group{Next: 6, Kept: []api.Kept{waiting(4, 2), {Seq: 5, Sent: 1001, Body: "new"}}, Marks: []api.Mark{{Token: "u", Seq: 2, At: 801}, {Token: "n", Seq: 5, At: 1001}}}},
		entry{0, "b", old}, entry{1, "a", old})
}

// P12.2: a group that is full says so; it has been looked at.
func TestSendToFullGroups(t *testing.T) {
	full := api.Group{Next: 20, Kept: many(12, 100), Marks: []api.Mark{{Token: "t", Seq: 9, At: 3}}}
	x := holding(t, withDead(1), entry{0, "a", full})
	send := api.Cmd{Kind: api.CmSend, Time: 302, Group: "a", Body: "b", Token: "n"}
	refuses(t, "12 messages", x, api.ErrFull, send)
	send.Token = "t"
	wantReply(t, "a token that it knows", do(t, x, send), api.Reply{Seq: 9})
	send.Time = 303
	wantReply(t, "a token that it knows no more", do(t, x, send), api.Reply{Err: api.ErrFull})
	full.Marks = nil
	wantState(t, "looked at", x, entry{0, "a", full})
	send.Time = 1099
	refuses(t, "just ahead of their end", x, api.ErrFull, send)
	send.Time = 1100
	wantReply(t, "at their end", do(t, x, send), api.Reply{Seq: 20})

	tokens := api.Group{Next: 1}
	for i := range 40 {
		tokens.Marks = append(tokens.Marks, api.Mark{Token: fmt.Sprint("t", i), Seq: i, At: 10})
	}
	x = holding(t, withDead(1), entry{0, "a", tokens})
	send = api.Cmd{Kind: api.CmSend, Time: 309, Group: "a", Body: "b", Token: "n"}
	refuses(t, "40 tokens", x, api.ErrFull, send)
	send.Time = 310
	wantReply(t, "of 40 tokens none is left", do(t, x, send), api.Reply{Seq: 1})
}

// P12.2: of several errors the first one that is named.
func TestSendRefuses(t *testing.T) {
	name := namesIn(high, 1)[0]
	x := newEngine(t, confsOf(2), low)
	for _, q := range []int{math.MinInt, -1, 2, 6, math.MaxInt} {
		refuses(t, "no queue", x, api.ErrQueue, api.Cmd{Kind: api.CmSend, Queue: q, Group: namesIn(low, 1)[0]})
		refuses(t, "no queue, no name", x, api.ErrQueue, api.Cmd{Kind: api.CmSend, Queue: q})
		refuses(t, "no queue, not served", x, api.ErrQueue, api.Cmd{Kind: api.CmSend, Queue: q, Group: name}, wrong...)
	}
	for _, q := range []int{0, 1} {
		refuses(t, "no name", x, api.ErrArg, api.Cmd{Kind: api.CmSend, Queue: q, Body: "b", Token: "t"})
		refuses(t, "no name, about nothing", x, api.ErrArg, api.Cmd{Kind: api.CmSend, Queue: q}, wrong...)
		refuses(t, "not served", x, api.ErrMoved, api.Cmd{Kind: api.CmSend, Queue: q, Group: name})
	}
	wantReply(t, "served", do(t, x, api.Cmd{Kind: api.CmSend, Queue: 1, Group: namesIn(low, 1)[0]}), api.Reply{Seq: 1})
}

// aboutCase is what a call is about, and whether a place that is served by low is.
type aboutCase struct {
	name  string
	about []api.Range
	is    bool
}

// aboutCases has lists of ranges that have a place, or have it not; low is served.
func aboutCases(p int) []aboutCase {
	just := from(p, p+1)
	return []aboutCase{
		{"nothing said", nil, true}, {"an empty list", list(), true}, {"all", whole, true}, {"what is served", low, true}, {"that place", list(just), true},
		{"what ends with it", list(from(0, p+1)), true}, {"what begins with it", list(from(p, span)), true}, {"what ends ahead of it", list(from(p-5, p)), false},
		{"what begins behind it", list(from(p+1, span)), false}, {"all others", list(from(0, p), from(p+1, span)), false}, {"what is not served", high, false},
		{"ranges that may not be", wrong, false}, {"one that may not be", list(from(-1, span)), false}, {"the empty range", list(from(0, 0)), false},
		{"wrong ones, and that", append(slices.Clone(wrong), just), true}, {"that, and wrong ones", append(list(just), wrong...), true},
		{"wrong ones, and others", append(slices.Clone(wrong), high...), false}, {"others, and that", list(from(p+1, p+2), just), true}, {"that twice", list(just, just), true},
	}
}

// P12.2: a command about one group is refused, where about has not its place, or it is not served.
func TestAboutOneGroup(t *testing.T) {
	name := namesIn(low, 1)[0]
	flying := of(given(1, 0, 1, 99), waiting(2, 0))
	for _, c := range []api.Cmd{
		{Kind: api.CmSend, Time: 1, Group: name, Body: "new"},
		{Kind: api.CmSend, Time: 1, Queue: 2, Group: name, Body: "new"},
		{Kind: api.CmDelete, Time: 1, Receipt: receipt(0, name, 1, 1)},
		{Kind: api.CmChange, Time: 1, Receipt: receipt(0, name, 1, 1), Secs: 7},
		{Kind: api.CmRedrive, Time: 1, Queue: 1, Group: name, Max: 5},
	} {
		for _, a := range aboutCases(placeOf(name)) {
			for _, served := range [][]api.Range{low, whole, high, nil} {
				x := holding(t, withDead(0), entry{0, name, flying}, entry{1, name, of(came(1, 0, 0))})
				is := a.is && len(served) > 0 && served[0].Lo == 0
				narrow(t, x, served)
				if !is {
					refuses(t, fmt.Sprintf("%+v, about %s, serving %v", c, a.name, served), x, api.ErrMoved, c, a.about...)
					continue
				}
				was := state(x)
				if r := do(t, x, c, a.about...); r.Err != api.OK {
					t.Errorf("%+v, about %s, serving %v: error %d", c, a.name, served, int(r.Err))
				}
				if slices.EqualFunc(state(x), was, sameEntry) {
					t.Errorf("%+v, about %s, serving %v: nothing has changed", c, a.name, served)
				}
			}
		}
	}
}

// narrow lets an engine that serves all serve some ranges alone.
func narrow(t *testing.T, x *queue.Engine, served []api.Range) {
	t.Helper()
	at := 0
	for _, r := range append(slices.Clone(served), from(span, span)) {
		if at < r.Lo {
			if _, e := x.Cut(from(at, r.Lo)); e != api.OK {
				t.Fatalf("Cut of %d to %d: error %d", at, r.Lo, int(e))
			}
		}
		at = r.Hi
	}
	wantServed(t, "narrowed", x, served...)
}

// P12.2: receipts that are right, of another Count, lapsed, and of messages and groups that there are not.
func TestDeleteAndChange(t *testing.T) {
	g := api.Group{Next: 9, Kept: []api.Kept{given(3, 5, 2, 100), given(4, 6, 1, 90), waiting(7, 7)}, Marks: []api.Mark{{Token: "t", Seq: 3, At: 5}}, Attempt: "p"}
	for _, c := range []struct {
		name           string
		receipt        api.Receipt
		time           int
		delete, change api.Errno
	}{
		{"the first one", receipt(0, "g", 3, 2), 99, api.OK, api.OK},
		{"the first one, at its end", receipt(0, "g", 3, 2), 100, api.ErrLapsed, api.ErrLapsed},
		{"the second one", receipt(0, "g", 4, 1), 89, api.OK, api.OK},
		{"the second one, at its end", receipt(0, "g", 4, 1), 90, api.ErrLapsed, api.ErrLapsed},
		{"another Count", receipt(0, "g", 3, 1), 50, api.ErrReceipt, api.ErrReceipt},
		{"another Count, lapsed", receipt(0, "g", 3, 3), 150, api.ErrReceipt, api.ErrReceipt},
		{"one that was never delivered", receipt(0, "g", 7, 0), 50, api.ErrLapsed, api.ErrLapsed},
		{"one that is gone", receipt(0, "g", 5, 1), 50, api.OK, api.ErrNone},
		{"one that is not yet", receipt(0, "g", 9, 1), 50, api.OK, api.ErrNone},
		{"none at all", receipt(0, "g", -1, -1), 50, api.OK, api.ErrNone},
		{"another group", receipt(0, "h", 3, 2), 50, api.OK, api.ErrNone},
		{"a group without a name", receipt(0, "", 3, 2), 50, api.OK, api.ErrNone},
		{"another queue", receipt(2, "g", 3, 2), 50, api.OK, api.ErrNone},
	} {
		for kind, want := range map[int]api.Errno{api.CmDelete: c.delete, api.CmChange: c.change} {
			x := holding(t, withDead(1), entry{0, "g", g}, entry{1, "g", g})
			// Queue, Group and Max say nothing here.
			cmd := api.Cmd{Kind: kind, Time: c.time, Receipt: c.receipt, Secs: 20, Queue: 77, Group: "other", Max: -1}
			name := fmt.Sprintf("%s, kind %d", c.name, kind)
			wantReply(t, name, do(t, x, cmd), api.Reply{Err: want})
			left := slices.Clone(g.Kept)
			at := slices.IndexFunc(left, func(m api.Kept) bool { return c.receipt == receipt(0, "g", m.Seq, m.Count) })
			if want == api.OK && at >= 0 && kind == api.CmDelete {
				left = slices.Delete(left, at, at+1)
			}
			if want == api.OK && at >= 0 && kind == api.CmChange {
				left[at].Until = c.time + 20
			}
			wantState(t, name, x, entry{0, "g", api.Group{Next: 9, Kept: left, Marks: g.Marks, Attempt: "p"}}, entry{1, "g", g})
		}
	}
}

// P12.2: the group is looked at, whatever its answer is; no other one is, and none comes.
func TestDeleteAndChangeLook(t *testing.T) {
	g := api.Group{Next: 9, Kept: []api.Kept{given(1, 0, 1, 2000), given(2, 101, 1, 2000)}, Marks: []api.Mark{{Token: "t", Seq: 1, At: 0}, {Token: "u", Seq: 2, At: 900}}}
	looked := api.Group{Next: 9, Kept: g.Kept[1:], Marks: g.Marks[1:]}
	for _, c := range []struct {
		kind, seq, count int
		want             api.Errno
	}{
		{api.CmDelete, 1, 1, api.OK}, {api.CmDelete, 2, 2, api.ErrReceipt}, {api.CmChange, 1, 1, api.ErrNone}, {api.CmChange, 2, 2, api.ErrReceipt},
	} {
		x := holding(t, withDead(1), entry{0, "g", g}, entry{0, "h", g}, entry{1, "g", g})
		wantReply(t, fmt.Sprint(c), do(t, x, api.Cmd{Kind: c.kind, Time: 1100, Receipt: receipt(0, "g", c.seq, c.count)}), api.Reply{Err: c.want})
		wantState(t, fmt.Sprint(c), x, entry{0, "g", looked}, entry{0, "h", g}, entry{1, "g", g})
	}
}

// P12.2
func TestDeleteAndChangeRefuse(t *testing.T) {
	g := of(given(1, 0, 1, 1<<20))
	here, there := namesIn(low, 1)[0], namesIn(high, 1)[0]
	x := holding(t, withDead(1), entry{0, here, g})
	narrow(t, x, low)
	for _, kind := range []int{api.CmDelete, api.CmChange} {
		for _, q := range []int{math.MinInt, -1, 3, 6, math.MaxInt} {
			for _, secs := range []int{0, maxVis + 1} {
				refuses(t, "no queue", x, api.ErrQueue, api.Cmd{Kind: kind, Time: 5, Secs: secs, Receipt: receipt(q, here, 1, 1)})
				refuses(t, "no queue, not served", x, api.ErrQueue, api.Cmd{Kind: kind, Time: 5, Secs: secs, Receipt: receipt(q, there, 1, 1)})
			}
		}
		refuses(t, "not served", x, api.ErrMoved, api.Cmd{Kind: kind, Time: 5, Receipt: receipt(0, there, 1, 1)})
		refuses(t, "not about it", x, api.ErrMoved, api.Cmd{Kind: kind, Time: 5, Receipt: receipt(0, here, 1, 1)}, high...)
	}
	for _, secs := range []int{maxVis + 1, maxVis + 2, maxTime} {
		refuses(t, "too long", x, api.ErrArg, api.Cmd{Kind: api.CmChange, Time: 5, Secs: secs, Receipt: receipt(0, here, 1, 1)})
		refuses(t, "too long, not served", x, api.ErrArg, api.Cmd{Kind: api.CmChange, Time: 5, Secs: secs, Receipt: receipt(0, there, 1, 1)})
	}
	for _, secs := range []int{maxVis, 1, 0} {
		wantReply(t, "as long as it may be", do(t, x, api.Cmd{Kind: api.CmChange, Time: 5, Secs: secs, Receipt: receipt(0, here, 1, 1)}), api.Reply{})
		g.Kept = []api.Kept{given(1, 0, 1, 5+secs)}
		wantState(t, "as long as it may be", x, entry{0, here, g})
	}
	// Now it is in flight no more.
	refuses(t, "lapsed", x, api.ErrLapsed, api.Cmd{Kind: api.CmChange, Time: 5, Secs: 9, Receipt: receipt(0, here, 1, 1)})
	// Delete says nothing of seconds.
	x = holding(t, withDead(1), entry{0, here, of(given(1, 0, 1, 1<<20))})
	wantReply(t, "a Delete of many seconds", do(t, x, api.Cmd{Kind: api.CmDelete, Time: 5, Secs: maxTime, Receipt: receipt(0, here, 1, 1)}), api.Reply{})
	wantState(t, "a Delete of many seconds", x, entry{0, here, api.Group{Next: 2}})
}

// P12.2: a purge of no groups, and of those of one queue among several; what is too old doesn't count.
func TestPurge(t *testing.T) {
	x := newEngine(t, withDead(1), whole)
	wantReply(t, "no groups", do(t, x, api.Cmd{Kind: api.CmPurge}), api.Reply{About: whole})
	g := api.Group{Next: 9, Kept: []api.Kept{waiting(1, 0), given(2, 101, 1, 5000), waiting(5, 1050)}, Marks: []api.Mark{{Token: "t", Seq: 1, At: 0}, {Token: "u", Seq: 2, At: 1000}}, Attempt: "p"}
	purged := api.Group{Next: 9, Marks: g.Marks[1:], Attempt: "p"}
	one := of(waiting(1, 1000))
	x = holding(t, withDead(1), entry{0, "a", g}, entry{0, "b", of()}, entry{0, "c", one}, entry{1, "a", g}, entry{2, "b", g})
	wantReply(t, "queue 0", do(t, x, api.Cmd{Kind: api.CmPurge, Time: 1100, Max: -1, Secs: maxTime}), api.Reply{N: 3, About: whole})
	wantState(t, "queue 0", x, entry{0, "a", purged}, entry{0, "b", of()}, entry{0, "c", api.Group{Next: 2}}, entry{1, "a", g}, entry{2, "b", g})
	wantReply(t, "queue 2", do(t, x, api.Cmd{Kind: api.CmPurge, Time: 1100, Queue: 2}), api.Reply{N: 1, About: whole})
	wantState(t, "queue 2", x, entry{0, "a", purged}, entry{0, "b", of()}, entry{0, "c", api.Group{Next: 2}}, entry{1, "a", g}, entry{2, "b", purged})
	wantReply(t, "queue 0 once more", do(t, x, api.Cmd{Kind: api.CmPurge, Time: 1100}), api.Reply{About: whole})
	for _, q := range []int{math.MinInt, -1, 3, 6, math.MaxInt} {
		refuses(t, "no queue", x, api.ErrQueue, api.Cmd{Kind: api.CmPurge, Queue: q, Time: 1100})
	}
}

// P12.2: a receive and a purge tell what they are about, and do what they do there alone.
func TestAboutManyGroups(t *testing.T) {
	names := slices.Concat(namesIn(list(from(0, 20000)), 3), namesIn(list(from(20000, 40000)), 3), namesIn(list(from(40000, span)), 3))
	slices.Sort(names)
	g := of(waiting(1, 0))
	for _, served := range [][]api.Range{whole, low, high, nil, list(from(100, 20000), from(30000, 50000)), list(from(0, 10), from(20, 30), from(35000, span))} {
		for _, about := range [][]api.Range{
			nil, {}, whole, low, high, wrong, list(from(0, 0)), list(from(5000, 45000)), list(from(40000, 60000), from(0, 30000)), list(from(0, 5), from(5, 25), from(2, 9)),
			append(slices.Clone(wrong), from(10000, 30000)), list(from(20, 30), from(0, 10)), list(from(9, 21)), list(from(20000, 30000)),
		} {
			places := runs(func(p int) bool { return has(served, p) && (len(about) == 0 || has(about, p)) })
			all := newEngine(t, confsOf(1), nil)
			var l, left []entry
			var got []api.Got
			for _, name := range names {
				if !has(served, placeOf(name)) {
					continue
				}
				l = append(l, entry{0, name, g})
				left = append(left, entry{0, name, g})
				if has(places, placeOf(name)) {
					left[len(left)-1].g = of(given(1, 0, 1, 12))
					got = append(got, delivery(0, name, given(1, 0, 1, 12)))
				}
			}
			serve(t, all, served, l)
			purged := all.Copy()
			name := fmt.Sprintf("serving %v, about %v", served, about)
			wantReply(t, name, do(t, all, api.Cmd{Kind: api.CmReceive, Time: 5, Max: 10, Secs: 7}, about...), api.Reply{Got: got, About: places})
			wantState(t, name, all, left...)
			wantReply(t, name, do(t, purged, api.Cmd{Kind: api.CmPurge, Time: 5}, about...), api.Reply{N: len(got), About: places})
		}
	}
}

// serve lets an engine that serves nothing serve ranges that have these groups.
func serve(t *testing.T, x *queue.Engine, served []api.Range, l []entry) {
	t.Helper()
	for _, r := range served {
		var texts []string
		for _, g := range l {
			if has(list(r), placeOf(g.name)) {
				texts = append(texts, textOf(g))
			}
		}
		if e := x.Paste(r, texts); e != api.OK {
			t.Fatalf("Paste into %v: error %d", r, int(e))
		}
	}
}

// runs tells the places that are had, as few ranges as can be, place by place.
func runs(had func(p int) bool) []api.Range {
	var l []api.Range
	for p := range span {
		if !had(p) {
			continue
		}
		if n := len(l); n > 0 && l[n-1].Hi == p {
			l[n-1].Hi++
		} else {
			l = append(l, from(p, p+1))
		}
	}
	return l
}
