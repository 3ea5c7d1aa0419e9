package queue_test

import (
	"fmt"
	"math"
	"slices"
	"testing"

	"raceway/api"
)

// receive is a command at time 50 that lets what it gets fly until 60.
func receive(max int, attempt string) api.Cmd {
	return api.Cmd{Kind: api.CmReceive, Time: 50, Max: max, Secs: 10, Attempt: attempt}
}

// tried is a group whose last delivery had an attempt.
func tried(attempt string, l ...api.Kept) api.Group {
	g := of(l...)
	g.Attempt = attempt
	return g
}

// P12.2: groups by their names, until there are Max: a later one gives fewer, or none.
func TestReceiveGoesByNames(t *testing.T) {
	g := func() api.Group { return of(waiting(1, 3), waiting(2, 4), waiting(3, 5)) }
	names := []string{"B", "a", "a\x00", "b", "\xff"}
	for max := 1; max <= 10; max++ {
		var l, left []entry
		var got []api.Got
		for _, name := range names {
			l = append(l, entry{0, name, g()})
			after := entry{0, name, g()}
			for i := range after.g.Kept {
				if len(got) < max {
					m := given(i+1, 3+i, 1, 60)
					after.g.Kept[i], after.g.Attempt = m, "p"
					got = append(got, delivery(0, name, m))
				}
			}
			left = append(left, after)
		}
		beside := entry{1, "a", g()}
		x := holding(t, withDead(3), append(l, beside)...)
		name := fmt.Sprint("Max ", max)
		wantReply(t, name, do(t, x, receive(max, "p")), api.Reply{Got: got, About: whole})
		wantState(t, name, x, append(left, beside)...)
	}
}

// P12.2: a delivery is told with its queue, and all that belongs to it.
func TestReceiveTellsDeliveries(t *testing.T) {
	x := holding(t, withDead(5), entry{2, "g", of(api.Kept{Seq: 7, Sent: 12, Count: 3, Until: 50, From: 1, Body: "text"})}, entry{0, "g", of(waiting(1, 0))})
	c := receive(5, "p")
	c.Queue, c.Group, c.Body, c.Token, c.Receipt = 2, "other", "other", "other", receipt(0, "g", 1, 1)
	wantReply(t, "it", do(t, x, c), api.Reply{Got: []api.Got{{Receipt: receipt(2, "g", 7, 4), Body: "text", Sent: 12}}, About: whole})
	wantState(t, "it", x, entry{0, "g", of(waiting(1, 0))}, entry{2, "g", tried("p", api.Kept{Seq: 7, Sent: 12, Count: 4, Until: 60, From: 1, Body: "text"})})
}

// P12.2: nothing there, or nothing of this queue.
func TestReceiveNothing(t *testing.T) {
	x := newEngine(t, withDead(1), whole)
	wantReply(t, "no groups", do(t, x, receive(1, "p")), api.Reply{About: whole})
	wantReply(t, "nothing served", do(t, newEngine(t, withDead(1), nil), receive(1, "")), api.Reply{})
	x = holding(t, withDead(1), entry{0, "empty", tried("o")}, entry{1, "g", of(waiting(1, 0))})
	was := state(x)
	wantReply(t, "an empty group", do(t, x, receive(1, "p")), api.Reply{About: whole})
	wantState(t, "an empty group", x, was...)
}

// P12.2: an attempt that got something gets the same again, and another one doesn't.
func TestReceiveAgain(t *testing.T) {
	l := []entry{
		{0, "a", tried("p", given(1, 3, 1, 55), given(2, 4, 2, 51), waiting(3, 5))},
		{0, "b", tried("q", given(1, 3, 1, 55))},
		{0, "c", tried("p", given(1, 3, 1, 50), waiting(2, 4))},
		{0, "d", tried("p", given(4, 3, 1, 90))},
		{0, "e", tried("", given(5, 3, 1, 90), waiting(6, 9))},
		{0, "f", of(waiting(1, 7))},
		{1, "a", tried("p", given(9, 3, 1, 55))},
	}
	all := []api.Got{delivery(0, "a", l[0].g.Kept[0]), delivery(0, "a", l[0].g.Kept[1]), delivery(0, "d", l[3].g.Kept[0])}
	for max := 1; max <= 10; max++ {
		x := holding(t, withDead(3), l...)
		for range 2 {
			name := fmt.Sprint("Max ", max)
			wantReply(t, name, do(t, x, receive(max, "p")), api.Reply{Got: all[:min(max, 3)], About: whole})
			wantState(t, name, x, l...)
		}
	}
	// Neither without bytes nor as another one is it told what is in flight: c and f are not.
	for _, attempt := range []string{"", "r", "P", "pp"} {
		x := holding(t, withDead(3), l...)
		after := slices.Clone(l)
		after[2].g = tried(attempt, given(1, 3, 2, 60), given(2, 4, 1, 60))
		after[5].g = tried(attempt, given(1, 7, 1, 60))
		got := []api.Got{delivery(0, "c", after[2].g.Kept[0]), delivery(0, "c", after[2].g.Kept[1]), delivery(0, "f", after[5].g.Kept[0])}
		wantReply(t, attempt, do(t, x, receive(10, attempt)), api.Reply{Got: got, About: whole})
		wantState(t, attempt, x, after...)
	}
}

// P12.2: an attempt counts where the command is about, and while what it got is in flight.
func TestReceiveAgainElsewhereOrLater(t *testing.T) {
	a, b := namesIn(low, 1)[0], namesIn(high, 1)[0]
	x := holding(t, withDead(3), entry{0, a, tried("p", given(1, 3, 1, 55))}, entry{0, b, of(waiting(1, 4))})
	got := given(1, 4, 1, 60)
	wantReply(t, "about others", do(t, x, receive(9, "p"), high...), api.Reply{Got: []api.Got{delivery(0, b, got)}, About: high})
	l := []entry{{0, a, tried("p", given(1, 3, 1, 55))}, {0, b, tried("p", got)}}
	slices.SortFunc(l, func(x, y entry) int { return map[bool]int{true: -1, false: 1}[x.name < y.name] })
	wantState(t, "about others", x, l...)
	later := receive(9, "p")
	later.Time = 55
	wantReply(t, "the first one has lapsed, and is not delivered beside the other", do(t, x, later), api.Reply{Got: []api.Got{delivery(0, b, got)}, About: whole})
	wantState(t, "the first one has lapsed", x, l...)
	later.Time = 60
	again := do(t, x, later)
	if len(again.Got) != 2 || again.Got[0].Receipt.Count != 2 || again.Got[1].Receipt.Count != 2 {
		t.Errorf("all have lapsed: %+v", again)
	}
}

// P12.2: a group that delivers has the attempt of that, one without bytes too; one that doesn't has its old one.
func TestReceiveLeavesItsAttempt(t *testing.T) {
	for _, attempt := range []string{"", "new"} {
		x := holding(t, withDead(1),
			entry{0, "a", tried("old", given(1, 3, 1, 20), waiting(2, 3))},
			entry{0, "b", tried("old", given(1, 3, 1, 20))},
			entry{0, "c", tried("old", given(1, 3, 1, 70))},
			entry{0, "d", tried("old", waiting(1, 3))})
		got := []api.Got{delivery(0, "a", given(2, 3, 1, 60)), delivery(0, "d", given(1, 3, 1, 60))}
		wantReply(t, attempt, do(t, x, receive(5, attempt)), api.Reply{Got: got, About: whole})
		dead := api.Kept{Seq: 1, Sent: 50, Body: "body 1"}
		wantState(t, attempt, x,
			entry{0, "a", api.Group{Next: 3, Kept: []api.Kept{given(2, 3, 1, 60)}, Attempt: attempt}},
			entry{0, "b", api.Group{Next: 2, Attempt: "old"}},
			entry{0, "c", tried("old", given(1, 3, 1, 70))},
			entry{0, "d", tried(attempt, given(1, 3, 1, 60))},
			entry{1, "a", of(dead)}, entry{1, "b", of(dead)})
	}
}

// P12.2: all groups that it is about are looked at, those behind Max too; what is too old is not delivered.
func TestReceiveLooks(t *testing.T) {
	old := api.Group{Next: 9, Kept: []api.Kept{waiting(1, 0), waiting(2, 101)}, Marks: []api.Mark{{Token: "t", Seq: 1, At: 0}, {Token: "u", Seq: 2, At: 900}}, Attempt: "p"}
	looked := api.Group{Next: 9, Kept: old.Kept[1:], Marks: old.Marks[1:], Attempt: "p"}
	delivered := api.Group{Next: 9, Kept: []api.Kept{given(2, 101, 1, 1107)}, Marks: old.Marks[1:], Attempt: "q"}
	x := holding(t, []api.Queue{{Keep: 1000, Dead: -1}, {Keep: 1000, Dead: -1}}, entry{0, "a", old}, entry{0, "b", old}, entry{0, "c", old}, entry{1, "a", old})
	c := api.Cmd{Kind: api.CmReceive, Time: 1100, Max: 1, Secs: 7, Attempt: "q"}
	wantReply(t, "one", do(t, x, c), api.Reply{Got: []api.Got{delivery(0, "a", delivered.Kept[0])}, About: whole})
	wantState(t, "one", x, entry{0, "a", delivered}, entry{0, "b", looked}, entry{0, "c", looked}, entry{1, "a", old})

	// Also where an attempt is told what it got.
	old.Kept[1] = given(2, 101, 1, 2000)
	x = holding(t, []api.Queue{{Keep: 1000, Dead: -1}}, entry{0, "a", old}, entry{0, "b", old})
	c.Attempt = "p"
	looked.Kept = old.Kept[1:]
	wantReply(t, "again", do(t, x, c), api.Reply{Got: []api.Got{delivery(0, "a", old.Kept[1])}, About: whole})
	wantState(t, "again", x, entry{0, "a", looked}, entry{0, "b", looked})
}

// P12.2: groups that it is not about are not looked at.
func TestReceiveLooksAtNoOthers(t *testing.T) {
	a, b := namesIn(low, 1)[0], namesIn(high, 1)[0]
	x := holding(t, withDead(1), entry{0, a, of(waiting(1, 0))}, entry{1, a, of(waiting(1, 0))}, entry{0, b, of(waiting(1, 0))}, entry{1, b, of(waiting(1, 0))})
	c := api.Cmd{Kind: api.CmReceive, Time: 2000, Max: 1}
	wantReply(t, "the lower half", do(t, x, c, low...), api.Reply{About: low})
	for _, at := range []entry{{0, a, api.Group{Next: 2}}, {1, a, api.Group{Next: 2}}, {0, b, of(waiting(1, 0))}, {1, b, of(waiting(1, 0))}} {
		if g, ok := x.Group(at.queue, at.name); !ok || !same(g, at.g) {
			t.Errorf("%d, %s: it is %v, not %v", at.queue, at.name, g, at.g)
		}
	}
}

// P12.2: a Count just below, at and above the queue's Max, with a Dead and without.
func TestReceiveOfDeadLetters(t *testing.T) {
	for count := range 5 {
		for most := range 4 {
			for _, dead := range []int{1, -1} {
				confs := withDead(most)
				confs[0].Dead = dead
				x := holding(t, confs, entry{0, "g", of(given(1, 3, count, 20), waiting(2, 3))})
				name := fmt.Sprintf("Count %d, Max %d, Dead %d", count, most, dead)
				first, second := given(1, 3, count+1, 60), given(2, 3, 1, 60)
				if dead < 0 || most == 0 || count < most {
					wantReply(t, name, do(t, x, receive(5, "")), api.Reply{Got: []api.Got{delivery(0, "g", first), delivery(0, "g", second)}, About: whole})
					wantState(t, name, x, entry{0, "g", of(first, second)})
					continue
				}
				wantReply(t, name, do(t, x, receive(5, "")), api.Reply{Got: []api.Got{delivery(0, "g", second)}, About: whole})
				wantState(t, name, x, entry{0, "g", of(second)}, entry{1, "g", of(api.Kept{Seq: 1, Sent: 50, Body: "body 1"})})
			}
		}
	}
}

// P12.2: dead letters that have room for all, for some, and for none.
func TestReceiveOfDeadLettersWithRoom(t *testing.T) {
	for had := range 16 {
		x := holding(t, withDead(2),
			entry{0, "g", of(given(1, 3, 2, 20), given(2, 3, 9, 20), given(3, 3, 2, 20), waiting(4, 3))},
			entry{1, "g", tried("o", many(had, 40)...)},
			entry{1, "h", of(many(12, 40)...)})
		die := min(3, max(0, 12-had))
		dead, left := tried("o", many(had, 40)...), of(given(1, 3, 2, 20), given(2, 3, 9, 20), given(3, 3, 2, 20), waiting(4, 3))
		for i := range die {
			dead.Kept = append(dead.Kept, api.Kept{Seq: had + 1 + i, Sent: 50, Body: fmt.Sprint("body ", i+1)})
			dead.Next++
		}
		left.Kept = left.Kept[die:]
		var got []api.Got
		if die == 3 {
			left.Kept = []api.Kept{given(4, 3, 1, 60)}
			got = []api.Got{delivery(0, "g", left.Kept[0])}
		}
		name := fmt.Sprintf("%d dead letters", had)
		wantReply(t, name, do(t, x, receive(5, "")), api.Reply{Got: got, About: whole})
		wantState(t, name, x, entry{0, "g", left}, entry{1, "g", dead}, entry{1, "h", of(many(12, 40)...)})
	}
}

// P12.2: the dead letters of that name are looked at, by their own queue's Keep, and no others; none come where nobody dies.
func TestReceiveLooksAtDeadLetters(t *testing.T) {
	for _, most := range []int{0, 1} {
		old := many(12, 100)
		x := holding(t, withDead(most),
			entry{0, "a", of(waiting(1, 599))}, entry{0, "b", of(waiting(1, 599))}, entry{0, "c", of(given(1, 599, 1, 9000))}, entry{0, "d", of(waiting(1, 599))},
			entry{1, "a", of(old...)}, entry{1, "c", of(old...)}, entry{1, "d", of(old...)}, entry{1, "e", of(old...)}, entry{2, "a", of(old...)})
		c := api.Cmd{Kind: api.CmReceive, Time: 600, Max: 2, Secs: 10}
		m := given(1, 599, 1, 610)
		wantReply(t, "it", do(t, x, c), api.Reply{Got: []api.Got{delivery(0, "a", m), delivery(0, "b", m)}, About: whole})
		empty := api.Group{Next: 13}
		l := []entry{
			{0, "a", of(m)}, {0, "b", of(m)}, {0, "c", of(given(1, 599, 1, 9000))}, {0, "d", of(waiting(1, 599))},
			{1, "a", empty}, {1, "c", of(old...)}, {1, "d", of(old...)}, {1, "e", of(old...)}, {2, "a", of(old...)}}
		wantState(t, "two", x, l...)
		// Of a group in flight the dead letters' room is asked, too.
		c.Max = 3
		m2 := given(1, 599, 1, 610)
		wantReply(t, "one more", do(t, x, c), api.Reply{Got: []api.Got{delivery(0, "d", m2)}, About: whole})
		l[3].g, l[5].g, l[6].g = of(m2), empty, empty
		wantState(t, "one more", x, l...)
	}
}

// P12.2: dead letters that were full have room, when what is too old has gone.
func TestReceiveMakesRoomForDeadLetters(t *testing.T) {
	for _, c := range []struct{ time, died int }{{599, 0}, {600, 1}} {
		x := holding(t, withDead(1), entry{0, "g", of(given(1, 500, 1, 550))}, entry{1, "g", of(many(12, 100)...)})
		wantReply(t, "it", do(t, x, api.Cmd{Kind: api.CmReceive, Time: c.time, Max: 1}), api.Reply{About: whole})
		g, _ := x.Group(0, "g")
		d, _ := x.Group(1, "g")
		if len(g.Kept) != 1-c.died || c.died == 1 && !slices.Equal(d.Kept, []api.Kept{{Seq: 13, Sent: 600, Body: "body 1"}}) {
			t.Errorf("at %d: %v and %v", c.time, g, d)
		}
	}
}

// P12.2: a message that dies keeps the queue from which it came, and dies once more from the dead letters of another one.
func TestReceiveOfTwiceDead(t *testing.T) {
	confs := []api.Queue{{Keep: 1000, Max: 1, Dead: 2}, {Keep: 1000, Dead: -1}, {Keep: 1000, Max: 2, Dead: 1}}
	x := newEngine(t, confs, whole)
	do(t, x, api.Cmd{Kind: api.CmSend, Group: "g", Body: "b", Token: "t"})
	do(t, x, api.Cmd{Kind: api.CmReceive, Time: 10, Max: 1})
	do(t, x, api.Cmd{Kind: api.CmReceive, Time: 20, Max: 1})
	sent := api.Group{Next: 2, Marks: []api.Mark{{Token: "t", Seq: 1, At: 0}}}
	wantState(t, "dead", x, entry{0, "g", sent}, entry{2, "g", of(api.Kept{Seq: 1, Sent: 20, Body: "b"})})
	do(t, x, api.Cmd{Kind: api.CmReceive, Time: 30, Max: 1, Queue: 2})
	do(t, x, api.Cmd{Kind: api.CmReceive, Time: 40, Max: 1, Queue: 2})
	do(t, x, api.Cmd{Kind: api.CmReceive, Time: 50, Max: 1, Queue: 2})
	wantState(t, "dead twice", x, entry{0, "g", sent}, entry{1, "g", of(api.Kept{Seq: 1, Sent: 50, Body: "b"})}, entry{2, "g", api.Group{Next: 2}})
	wantReply(t, "brought back", do(t, x, api.Cmd{Kind: api.CmRedrive, Time: 60, Queue: 1, Group: "g", Max: 1}), api.Reply{N: 1})
	sent.Next, sent.Kept = 3, []api.Kept{{Seq: 2, Sent: 60, Body: "b"}}
	wantState(t, "brought back", x, entry{0, "g", sent}, entry{1, "g", api.Group{Next: 2}}, entry{2, "g", api.Group{Next: 2}})
}

// P12.2: behind Max nobody dies any more, in the group and in later ones.
func TestReceiveEndsAtMax(t *testing.T) {
	x := holding(t, withDead(1), entry{0, "a", of(waiting(1, 3), given(2, 3, 1, 20))}, entry{0, "b", of(given(1, 3, 1, 20))})
	wantReply(t, "one", do(t, x, receive(1, "")), api.Reply{Got: []api.Got{delivery(0, "a", given(1, 3, 1, 60))}, About: whole})
	wantState(t, "one", x, entry{0, "a", of(given(1, 3, 1, 60), given(2, 3, 1, 20))}, entry{0, "b", of(given(1, 3, 1, 20))})
}

// P12.2
func TestReceiveRefuses(t *testing.T) {
	x := holding(t, withDead(1), entry{0, "a", of(waiting(1, 0))}, entry{2, "a", of(waiting(1, 0))})
	for _, q := range []int{math.MinInt, -1, 3, 6, math.MaxInt} {
		for _, most := range []int{0, 1, 10, 11} {
			refuses(t, "no queue", x, api.ErrQueue, api.Cmd{Kind: api.CmReceive, Time: 3000, Queue: q, Max: most, Secs: maxVis + 1})
			refuses(t, "no queue", x, api.ErrQueue, api.Cmd{Kind: api.CmReceive, Time: 3000, Queue: q, Max: most}, wrong...)
		}
	}
	for _, most := range []int{math.MinInt, -1, 0, 11, 12, math.MaxInt} {
		refuses(t, fmt.Sprint("Max ", most), x, api.ErrArg, api.Cmd{Kind: api.CmReceive, Time: 3000, Max: most})
		refuses(t, fmt.Sprint("Max ", most), x, api.ErrArg, api.Cmd{Kind: api.CmReceive, Time: 3000, Max: most}, wrong...)
	}
	for _, secs := range []int{maxVis + 1, maxVis + 2, maxTime} {
		refuses(t, fmt.Sprint("Secs ", secs), x, api.ErrArg, api.Cmd{Kind: api.CmReceive, Time: 3000, Max: 1, Secs: secs})
	}
	for _, secs := range []int{0, 1, maxVis - 1, maxVis} {
		y := x.Copy()
		m := given(1, 0, 1, 5+secs)
		wantReply(t, fmt.Sprint("Secs ", secs), do(t, y, api.Cmd{Kind: api.CmReceive, Time: 5, Max: 1, Secs: secs}), api.Reply{Got: []api.Got{delivery(0, "a", m)}, About: whole})
		wantState(t, fmt.Sprint("Secs ", secs), y, entry{0, "a", of(m)}, entry{2, "a", of(waiting(1, 0))})
	}
}
