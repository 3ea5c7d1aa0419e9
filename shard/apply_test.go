package shard_test

import (
	"fmt"
	"slices"
	"strings"
	"testing"

	"raceway/api"
	"raceway/shard"
)

// edge is where what rich serves ends.
const edge = 65000

// rich has something to do for each kind; all its places are served but the last ones.
func rich(t *testing.T) *shard.Shard {
	t.Helper()
	flying := waiting(1, 5)
	flying.Count, flying.Until = 1, 2000
	groups := []entry{{0, "a", of(flying, waiting(2, 6))}, {0, "c", of(waiting(1, 5))}, {1, "b", of(waiting(1, 7))}, {2, "a", of(waiting(4, 8))}}
	s := holding(t, list(from(0, edge)), []asked{{3, 30, api.Reply{N: 1}}}, groups)
	if len(pictureOf(s).groups) != len(groups) {
		t.Fatal("some of the groups are elsewhere")
	}
	return s
}

// deed is a command, and what rich answers to it at time 1000.
type deed struct {
	cmd   api.Cmd
	reply api.Reply
}

// right has a deed of each kind, in the order of the kinds.
func right(t *testing.T) []deed {
	served := list(from(0, edge))
	receipt := api.Receipt{Queue: 0, Group: "a", Seq: 1, Count: 1}
	frozen := from(0, placeOf("a")+1)
	all := pictureOf(rich(t)).groups
	return []deed{
		{api.Cmd{Kind: api.CmNothing}, api.Reply{}},
		{api.Cmd{Kind: api.CmSend, Group: "a", Body: "new", Token: "t"}, api.Reply{Seq: 3}},
		{api.Cmd{Kind: api.CmReceive, Max: 3, Secs: 7, Attempt: "p"}, api.Reply{Got: []api.Got{{Receipt: api.Receipt{Group: "c", Seq: 1, Count: 1}, Body: "body 1", Sent: 5}}, About: served}},
		{api.Cmd{Kind: api.CmDelete, Receipt: receipt}, api.Reply{}},
		{api.Cmd{Kind: api.CmChange, Receipt: receipt, Secs: 7}, api.Reply{}},
		{api.Cmd{Kind: api.CmPurge}, api.Reply{N: 3, About: served}},
		{api.Cmd{Kind: api.CmRedrive, Queue: 1, Group: "b", Max: 3}, api.Reply{N: 1}},
		{api.Cmd{Kind: api.CmFreeze, Range: frozen}, api.Reply{Data: packed([]asked{{3, 30, api.Reply{N: 1}}}, inside(all, frozen)), About: list(frozen)}},
		{api.Cmd{Kind: api.CmImport, Range: from(edge, span), Data: packed([]asked{{4, 5, api.Reply{Seq: 6}}}, nil)}, api.Reply{About: list(from(edge, span))}},
		{api.Cmd{Kind: api.CmRelease, Range: frozen}, api.Reply{}},
		{api.Cmd{Kind: api.CmChart, Range: frozen, To: 2}, api.Reply{Err: api.ErrArg}},
	}
}

// changed is what rich has behind a deed, but for the note of its client.
func changed(t *testing.T, c api.Cmd) picture {
	t.Helper()
	p := pictureOf(rich(t))
	x := rich(t).Engine()
	switch c.Kind {
	case api.CmFreeze:
		x.Cut(c.Range)
	case api.CmImport:
		x.Paste(c.Range, c.Data[2:])
		p.sessions = append(p.sessions, asked{4, 5, api.Reply{Seq: 6}})
	case api.CmRelease, api.CmNothing, api.CmChart:
	default:
		x.Do(c, nil)
	}
	p.served, p.groups = x.Served(), groupsOf(x)
	return p.behind(c.Time)
}

// P14.2: each kind, by a client and by none: what is told, and what there is then.
func TestKinds(t *testing.T) {
	deeds := right(t)
	if len(deeds) != maxKinds {
		t.Fatalf("%d kinds", len(deeds))
	}
	for _, x := range deeds {
		for _, who := range []struct{ client, num int }{{0, 0}, {7, 1}, {7, 300}, {maxTime, maxTime}} {
			c := x.cmd
			c.Client, c.Num, c.Time = who.client, who.num, 1000
			name := fmt.Sprintf("kind %d of client %d", c.Kind, c.Client)
			s := rich(t)
			wantDone(t, name, do(t, s, c), api.Done{Slot: 1, Time: 1000, Cmd: c, Reply: x.reply, Fresh: true})
			want := changed(t, c)
			if c.Client > 0 {
				want = want.noting(asked{c.Client, c.Num, x.reply})
			}
			wantPicture(t, name, s, want)
		}
	}
}

// P14.2: parts of a command that its kind does not ask for are told, and change nothing.
func TestOtherParts(t *testing.T) {
	for _, kind := range []int{api.CmNothing, api.CmRelease, api.CmChart} {
		c := api.Cmd{Kind: kind, Client: 1, Num: 2, Time: 3, Queue: 99, Group: "a", Body: "b", Token: "t", Attempt: "p", Max: 99, Secs: maxTime,
			Receipt: api.Receipt{Queue: 9, Group: "c", Seq: 1, Count: 1}, Range: from(0, edge), To: 6, Data: []string{"x", ""}}
		s := rich(t)
		was := pictureOf(s)
		reply := api.Reply{}
		if kind == api.CmChart {
			reply.Err = api.ErrArg
		}
		wantDone(t, fmt.Sprint("kind ", kind), do(t, s, c), api.Done{Slot: 1, Time: 3, Cmd: c, Reply: reply, Fresh: true})
		wantPicture(t, fmt.Sprint("kind ", kind), s, was.behind(3).noting(asked{1, 2, reply}))
	}
	c := api.Cmd{Kind: api.CmSend, Time: 4, Group: "a", Body: "b", Token: "t", Range: from(1, 2), To: 3, Data: []string{"data", ""}}
	wantDone(t, "a send", do(t, rich(t), c), api.Done{Slot: 1, Time: 4, Cmd: c, Reply: api.Reply{Seq: 3}, Fresh: true})
}

// P14.2: a receive and a purge are about all that is served, in several ranges, too.
func TestAboutAllThatIsServed(t *testing.T) {
	served := list(from(0, 20000), from(30000, 40000), from(50000, span))
	groups := inside(scattered(12), served...)
	s := holding(t, served, nil, groups)
	r := did(t, s, api.Cmd{Kind: api.CmReceive, Time: 100, Max: 10, Secs: 9})
	if len(r.Got) != 10 || !slices.Equal(r.About, served) {
		t.Errorf("Receive: %s", brief(r))
	}
	r = did(t, s, api.Cmd{Kind: api.CmPurge, Time: 100, Queue: 2})
	ofTwo := slices.DeleteFunc(slices.Clone(groups), func(x entry) bool { return x.queue != 2 })
	if r.N != 2*len(ofTwo) || !slices.Equal(r.About, served) {
		t.Errorf("Purge: %s", brief(r))
	}
	r = did(t, newShard(t, withDead(1), nil), api.Cmd{Kind: api.CmReceive, Max: 1})
	if len(r.Got) > 0 || len(r.About) > 0 {
		t.Errorf("nothing is served: %s", brief(r))
	}
}

// P14.2: the time that a command is done at is the shard's, and what it does is done at that.
func TestTimes(t *testing.T) {
	s := newShard(t, []api.Queue{plainConf()}, whole)
	for i, c := range []struct{ time, at int }{{0, 0}, {50, 50}, {50, 50}, {49, 50}, {0, 50}, {60, 60}, {10, 60}, {maxTime, maxTime}, {1, maxTime}} {
		cmd := api.Cmd{Kind: api.CmSend, Client: 1, Num: i + 1, Time: c.time, Group: "g", Body: fmt.Sprint(i), Token: fmt.Sprint(i)}
		done := cmd
		done.Time = c.at
		want := api.Done{Slot: 2 * i, Time: c.at, Cmd: done, Reply: api.Reply{Seq: i + 1}, Fresh: true}
		wantDone(t, fmt.Sprint("value ", i), do(t, s, cmd), want)
		g, _ := s.Engine().Group(0, "g")
		if sent := g.Kept[len(g.Kept)-1].Sent; sent != c.at {
			t.Errorf("value %d: sent at %d, not %d", i, sent, c.at)
		}
		// What is known already has the shard's time, too.
		want.Slot, want.Fresh = want.Slot+1, false
		wantDone(t, fmt.Sprint("value ", i, " once more"), do(t, s, cmd), want)
	}
}

// P14.2: who comes too early finds a message in flight by the shard's time, not by its own.
func TestTimesOfDeliveries(t *testing.T) {
	s := newShard(t, []api.Queue{plainConf()}, whole)
	did(t, s, api.Cmd{Kind: api.CmSend, Time: 100, Group: "g", Body: "b"})
	if r := did(t, s, api.Cmd{Kind: api.CmReceive, Time: 3, Max: 1, Secs: 10}); len(r.Got) != 1 {
		t.Errorf("the first: %s", brief(r))
	}
	if g, _ := s.Engine().Group(0, "g"); g.Kept[0].Until != 110 {
		t.Errorf("in flight until %d", g.Kept[0].Until)
	}
	if r := did(t, s, api.Cmd{Kind: api.CmReceive, Time: 109, Max: 1, Secs: 10}); len(r.Got) != 0 {
		t.Errorf("at 109: %s", brief(r))
	}
	did(t, s, api.Cmd{Time: 110})
	if r := did(t, s, api.Cmd{Kind: api.CmReceive, Time: 0, Max: 1, Secs: 10}); len(r.Got) != 1 || r.Got[0].Receipt.Count != 2 {
		t.Errorf("behind 110: %s", brief(r))
	}
}

// noCommands has values that wire.ReadCmd refuses.
func noCommands() map[string][]byte {
	full := api.Cmd{Kind: api.CmSend, Client: 200, Num: 300, Time: 5000, Queue: 0, Group: "a", Body: "body", Token: "t", Attempt: "p", Max: 1, Secs: 2,
		Receipt: api.Receipt{Queue: 1, Group: "b", Seq: 3, Count: 4}, Range: from(5, 600), To: 7, Data: []string{"x", "", "yz"}}
	bad := map[string][]byte{"nil": nil, "empty": {}, "a nought": {0}, "a longer number than it needs": append([]byte{0x80, 0}, value(full)[1:]...)}
	whole := value(full)
	for i := range whole {
		bad[fmt.Sprint("cut to ", i)] = whole[:i]
	}
	for _, more := range []string{"\x00", "\x01", "\xff", string(whole)} {
		bad[fmt.Sprintf("with %q behind", more)] = append(slices.Clone(whole), more...)
	}
	for name, change := range map[string]func(c *api.Cmd){
		"kind 11": func(c *api.Cmd) { c.Kind = 11 }, "a great kind": func(c *api.Cmd) { c.Kind = maxTime },
		"a great client": func(c *api.Cmd) { c.Client = maxTime + 1 }, "a great number": func(c *api.Cmd) { c.Num = maxTime + 1 },
		"a great time": func(c *api.Cmd) { c.Time = maxTime + 1 }, "the greatest time": func(c *api.Cmd) { c.Time = maxNum },
		"a great queue": func(c *api.Cmd) { c.Queue = maxTime + 1 }, "great secs": func(c *api.Cmd) { c.Secs = maxTime + 1 },
		"a long group": func(c *api.Cmd) { c.Group = strings.Repeat("g", 33) }, "a long body": func(c *api.Cmd) { c.Body = strings.Repeat("b", 129) },
		"a long token": func(c *api.Cmd) { c.Token = strings.Repeat("t", 33) }, "a long attempt": func(c *api.Cmd) { c.Attempt = strings.Repeat("t", 33) },
		"a range of nothing": func(c *api.Cmd) { c.Range = from(3, 3) }, "a range beyond all": func(c *api.Cmd) { c.Range = from(0, span+1) },
		"a long text": func(c *api.Cmd) { c.Data = []string{strings.Repeat("d", maxText+1)} }, "many texts": func(c *api.Cmd) { c.Data = make([]string, maxItems+1) },
	} {
		c := full
		change(&c)
		bad[name] = value(c)
	}
	return bad
}

// P14.2: they take a slot, and change nothing else, not even the time.
func TestNoCommands(t *testing.T) {
	for name, v := range noCommands() {
		for _, s := range []*shard.Shard{rich(t), newShard(t, []api.Queue{plainConf()}, nil)} {
			do(t, s, api.Cmd{Kind: api.CmPurge, Client: 5, Num: 6, Time: 70})
			was := pictureOf(s)
			wantDone(t, name, apply(t, s, v), api.Done{Slot: was.slots, Time: 70})
			wantDone(t, name+", once more", apply(t, s, v), api.Done{Slot: was.slots + 1, Time: 70})
			wantPicture(t, name, s, was.behind(70).behind(70))
		}
	}
}

// P14.2: who has no number, or is nobody, is done each time, and not noted.
func TestHalfNumbered(t *testing.T) {
	for _, who := range []struct{ client, num int }{{0, 0}, {1, 0}, {0, 1}, {maxTime, 0}, {0, maxTime}, {3, 0}, {0, 30}} {
		s := holding(t, whole, []asked{{3, 30, api.Reply{N: 1}}}, nil)
		was := pictureOf(s)
		for i := range 3 {
			c := api.Cmd{Kind: api.CmSend, Client: who.client, Num: who.num, Time: 9, Group: "g", Body: fmt.Sprint(i)}
			wantDone(t, fmt.Sprint(who), do(t, s, c), api.Done{Slot: i + 1, Time: 9, Cmd: c, Reply: api.Reply{Seq: i + 1}, Fresh: true})
		}
		if got := pictureOf(s).sessions; !slices.EqualFunc(got, was.sessions, sameAsked) {
			t.Errorf("%v: noted: %s", who, brief(got))
		}
	}
}

// P14.2: the same number is known, whatever is asked by it; a lesser one is old; a greater one is done.
func TestNumbers(t *testing.T) {
	for _, x := range right(t) {
		s := rich(t)
		first := x.cmd
		first.Client, first.Num, first.Time = 7, 10, 1000
		did := do(t, s, first)
		for _, y := range right(t) {
			name := fmt.Sprintf("kind %d behind kind %d", y.cmd.Kind, x.cmd.Kind)
			c := y.cmd
			c.Client, c.Time = 7, 999
			for _, n := range []int{10, 9, 1, 10} {
				was := pictureOf(s)
				c.Num = n
				asDone := c
				asDone.Time = 1000
				want := api.Done{Slot: was.slots, Time: 1000, Cmd: asDone, Reply: did.Reply}
				if n < 10 {
					want.Reply = api.Reply{Err: api.ErrOld}
				}
				wantDone(t, name, do(t, s, c), want)
				wantPicture(t, name, s, was.behind(1000))
			}
			// The time goes on, whether or not anything is done.
			later := s.Copy()
			c.Num, c.Time = 10, 1500
			wantDone(t, name+", later", do(t, later, c), api.Done{Slot: s.Slots(), Time: 1500, Cmd: c, Reply: did.Reply})
			wantPicture(t, name+", later", later, pictureOf(s).behind(1500))
			c.Num, c.Time = 9, 1501
			wantDone(t, name+", old", do(t, later, c), api.Done{Slot: s.Slots() + 1, Time: 1501, Cmd: c, Reply: api.Reply{Err: api.ErrOld}})
		}
		c := api.Cmd{Kind: api.CmNothing, Client: 7, Num: 11, Time: 1000}
		wantDone(t, "a greater number", do(t, s, c), api.Done{Slot: s.Slots() - 1, Time: 1000, Cmd: c, Fresh: true})
		c = first
		c.Num = 10
		if d := do(t, s, c); d.Fresh || d.Reply.Err != api.ErrOld {
			t.Errorf("kind %d: behind a greater number: %s", x.cmd.Kind, brief(d))
		}
	}
}

// P14.2: one client's numbers are nobody else's.
func TestNumbersOfOthers(t *testing.T) {
	s := newShard(t, []api.Queue{plainConf()}, whole)
	for i, who := range []int{5, 6, 1, maxTime, 7} {
		c := api.Cmd{Kind: api.CmSend, Client: who, Num: 4, Group: "g", Body: fmt.Sprint(who)}
		if r := did(t, s, c); r.Seq != i+1 {
			t.Errorf("client %d: %s", who, brief(r))
		}
	}
	for _, who := range []int{5, 6, 1, maxTime, 7} {
		if d := do(t, s, api.Cmd{Kind: api.CmNothing, Client: who, Num: 4}); d.Fresh || d.Reply.Seq == 0 {
			t.Errorf("client %d: %s", who, brief(d))
		}
	}
}

// P14.2: an error is noted, and is known from then on, even where the command would be right by then.
func TestErrorsAreNoted(t *testing.T) {
	gone := api.Receipt{Group: "zz", Seq: 1, Count: 1}
	for i, x := range []deed{
		{api.Cmd{Kind: api.CmSend, Queue: 9, Group: "a"}, api.Reply{Err: api.ErrQueue}},
		{api.Cmd{Kind: api.CmSend}, api.Reply{Err: api.ErrArg}},
		{api.Cmd{Kind: api.CmReceive}, api.Reply{Err: api.ErrArg}},
		{api.Cmd{Kind: api.CmReceive, Max: 1, Secs: 43201}, api.Reply{Err: api.ErrArg}},
		{api.Cmd{Kind: api.CmDelete, Receipt: api.Receipt{Group: "a", Seq: 1, Count: 2}}, api.Reply{Err: api.ErrReceipt}},
		{api.Cmd{Kind: api.CmDelete, Receipt: api.Receipt{Group: "a", Seq: 2}}, api.Reply{Err: api.ErrLapsed}},
		{api.Cmd{Kind: api.CmChange, Receipt: gone}, api.Reply{Err: api.ErrNone}},
		{api.Cmd{Kind: api.CmPurge, Queue: 3}, api.Reply{Err: api.ErrQueue}},
		{api.Cmd{Kind: api.CmRedrive, Group: "a", Max: 1}, api.Reply{Err: api.ErrBusy}},
		{api.Cmd{Kind: api.CmFreeze, Range: whole[0]}, api.Reply{Err: api.ErrArg}},
		{api.Cmd{Kind: api.CmImport, Range: from(edge, span)}, api.Reply{Err: api.ErrArg}},
		{api.Cmd{Kind: api.CmChart}, api.Reply{Err: api.ErrArg}},
	} {
		s := rich(t)
		was := pictureOf(s)
		c := x.cmd
		c.Client, c.Num, c.Time = 7, 2, 1000
		wantDone(t, fmt.Sprint("deed ", i), do(t, s, c), api.Done{Slot: 1, Time: 1000, Cmd: c, Reply: x.reply, Fresh: true})
		wantPicture(t, fmt.Sprint("deed ", i), s, was.behind(1000).noting(asked{7, 2, x.reply}))
		c = api.Cmd{Kind: api.CmSend, Client: 7, Num: 2, Time: 1000, Group: "a"}
		wantDone(t, fmt.Sprint("deed ", i, " once more"), do(t, s, c), api.Done{Slot: 2, Time: 1000, Cmd: c, Reply: x.reply})
	}
}

// P14.2: what is elsewhere is not noted, so that the same number may be asked again, and is done once its places are served.
func TestMovedIsNotNoted(t *testing.T) {
	name := namesIn(high, 1)[0]
	receipt := api.Receipt{Group: name, Seq: 1, Count: 1}
	for _, c := range []api.Cmd{
		{Kind: api.CmSend, Group: name, Body: "b", Token: "t"}, {Kind: api.CmDelete, Receipt: receipt}, {Kind: api.CmChange, Receipt: receipt, Secs: 5}, {Kind: api.CmRedrive, Group: name, Max: 1},
	} {
		s := holding(t, low, []asked{{7, 3, api.Reply{Seq: 8}}}, nil)
		was := pictureOf(s)
		c.Client, c.Num, c.Time = 7, 4, 20
		for i := range 3 {
			wantDone(t, "elsewhere", do(t, s, c), api.Done{Slot: 1 + i, Time: 20, Cmd: c, Reply: api.Reply{Err: api.ErrMoved}, Fresh: true})
		}
		wantPicture(t, "elsewhere", s, was.behind(20).behind(20).behind(20))
		old := c
		old.Num = 3
		wantDone(t, "the number ahead", do(t, s, old), api.Done{Slot: 4, Time: 20, Cmd: old, Reply: api.Reply{Seq: 8}})
		flying := waiting(1, 5)
		flying.Count, flying.Until = 1, 100
		if c.Kind == api.CmRedrive {
			flying.Until = 0
		}
		did(t, s, api.Cmd{Kind: api.CmImport, Range: high[0], Data: packed(nil, []entry{{0, name, of(flying)}})})
		d := do(t, s, c)
		if !d.Fresh || d.Reply.Err != api.OK || s.Sessions().Last(7) != 4 {
			t.Errorf("here by now: %s", brief(d))
		}
		again := do(t, s, c)
		if again.Fresh || !sameReply(again.Reply, d.Reply) {
			t.Errorf("once more: %s", brief(again))
		}
	}
}

// P14.2: where the table is full, a new client is done, each time, and not noted; those that are known go on.
func TestTooManyClients(t *testing.T) {
	s := holding(t, whole, clients(maxClients-1, 5), nil)
	send := func(client, num, seq int, isFresh bool) {
		t.Helper()
		c := api.Cmd{Kind: api.CmSend, Client: client, Num: num, Time: 9, Group: "g", Body: fmt.Sprint(s.Slots())}
		wantDone(t, fmt.Sprintf("client %d, number %d", client, num), do(t, s, c), api.Done{Slot: s.Slots() - 1, Time: 9, Cmd: c, Reply: api.Reply{Seq: seq}, Fresh: isFresh})
	}
	send(100, 1, 1, true)
	send(100, 1, 1, false)
	was := pictureOf(s).sessions
	send(200, 1, 2, true)
	send(200, 1, 3, true)
	if got := pictureOf(s).sessions; !slices.EqualFunc(got, was, sameAsked) || len(got) != maxClients {
		t.Errorf("it notes %s", brief(got))
	}
	send(3, 6, 4, true)
	send(3, 6, 4, false)
	send(100, 2, 5, true)
	send(100, 2, 5, false)
}
