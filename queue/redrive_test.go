package queue_test

import (
	"fmt"
	"math"
	"testing"

	"raceway/api"
)

// redrive is a command at time 50 about the group g of queue 1.
func redrive(max int) api.Cmd {
	return api.Cmd{Kind: api.CmRedrive, Time: 50, Queue: 1, Group: "g", Max: max}
}

// back is a message as it comes back into the queue from which it came.
func back(seq, queue int, body string) api.Kept {
	return api.Kept{Seq: seq, Sent: 50, From: queue, Body: body}
}

// P12.2: one by one, in order, each into the queue from which it came; the Max first ones.
func TestRedrive(t *testing.T) {
	for most := 1; most <= 10; most++ {
		x := holding(t, withDead(1),
			entry{0, "g", tried("o", waiting(6, 9))},
			entry{0, "h", of(waiting(1, 9))},
			entry{1, "g", tried("p", came(3, 9, 0), came(4, 9, 2), came(5, 9, 0), came(6, 9, 2))},
			entry{1, "h", of(came(1, 9, 0))})
		zero, two := tried("o", waiting(6, 9)), api.Group{Next: 1}
		n := min(most, 4)
		for i := range n {
			g, q := &zero, 0
			if i%2 == 1 {
				g, q = &two, 2
			}
			g.Kept = append(g.Kept, back(g.Next, q, fmt.Sprint("body ", i+3)))
			g.Next++
		}
		left := tried("p", came(3, 9, 0), came(4, 9, 2), came(5, 9, 0), came(6, 9, 2))
		left.Kept = left.Kept[n:]
		name := fmt.Sprint("Max ", most)
		wantReply(t, name, do(t, x, redrive(most)), api.Reply{N: n})
		l := []entry{{0, "g", zero}, {0, "h", of(waiting(1, 9))}, {1, "g", left}, {1, "h", of(came(1, 9, 0))}}
		if n > 1 {
			l = append(l, entry{2, "g", two})
		}
		wantState(t, name, x, l...)
	}
}

// P12.2: it ends at a message of the queue itself, or of a queue that there is not.
func TestRedriveEndsAtOwnMessages(t *testing.T) {
	for _, own := range []int{1, 3, 4, 6, maxTime, 1 << 62} {
		for ahead := range 3 {
			var l []api.Kept
			for i := range ahead {
				l = append(l, came(i+1, 9, 0))
			}
			l = append(l, came(ahead+1, 9, own), came(ahead+2, 9, 0))
			x := holding(t, withDead(1), entry{1, "g", of(l...)})
			name := fmt.Sprintf("%d ahead of one from queue %d", ahead, own)
			wantReply(t, name, do(t, x, redrive(10)), api.Reply{N: ahead})
			var want []entry
			if ahead > 0 {
				var kept []api.Kept
				for i := range ahead {
					kept = append(kept, back(i+1, 0, fmt.Sprint("body ", i+1)))
				}
				want = append(want, entry{0, "g", of(kept...)})
			}
			left := of(l...)
			left.Kept = left.Kept[ahead:]
			wantState(t, name, x, append(want, entry{1, "g", left})...)
		}
	}
}

// P12.2: it ends at a group that is full, though a later message could go elsewhere; one that was in flight is none of its business.
func TestRedriveEndsAtFullGroups(t *testing.T) {
	for had := range 16 {
		home := tried("o", many(had, 9)...)
		if had > 0 {
			home.Kept[0] = given(1, 9, 1, 99)
		}
		x := holding(t, withDead(1), entry{0, "g", home}, entry{1, "g", of(came(1, 9, 0), came(2, 9, 0), came(3, 9, 2))})
		n := min(2, max(0, 12-had))
		for i := range n {
			home.Kept = append(home.Kept, back(home.Next, 0, fmt.Sprint("body ", i+1)))
			home.Next++
		}
		left := of(came(1, 9, 0), came(2, 9, 0), came(3, 9, 2))
		left.Kept = left.Kept[n:]
		want := []entry{{0, "g", home}, {1, "g", left}}
		if n == 2 {
			n, want[1].g.Kept = 3, nil
			want = append(want, entry{2, "g", of(back(1, 2, "body 3"))})
		}
		name := fmt.Sprintf("%d messages", had)
		wantReply(t, name, do(t, x, redrive(10)), api.Reply{N: n})
		wantState(t, name, x, want...)
	}
}

// P12.2: a group in flight is busy, whatever it has; it has been looked at. What has lapsed is not.
func TestRedriveOfFlying(t *testing.T) {
	for _, flying := range []api.Kept{given(4, 9, 1, 51), given(4, 9, 3, 9999)} {
		old := api.Group{Next: 9, Kept: []api.Kept{came(1, 9, 0), flying}, Marks: []api.Mark{{Token: "t", Seq: 1, At: 0}}}
		x := holding(t, withDead(1), entry{0, "g", of(waiting(1, 9))}, entry{1, "g", old})
		refuses(t, "in flight", x, api.ErrBusy, redrive(10))
		c := redrive(10)
		c.Time = flying.Until
		if c.Time == 9999 {
			continue
		}
		wantReply(t, "lapsed", do(t, x, c), api.Reply{N: 2})
	}
	old := api.Group{Next: 9, Kept: []api.Kept{came(1, 9, 0), given(4, 100, 1, 900)}, Marks: []api.Mark{{Token: "t", Seq: 1, At: 0}}}
	x := holding(t, withDead(1), entry{0, "g", of(waiting(1, 9))}, entry{1, "g", old})
	c := redrive(10)
	c.Time = 510
	wantReply(t, "in flight, and looked at", do(t, x, c), api.Reply{Err: api.ErrBusy})
	wantState(t, "in flight, and looked at", x, entry{0, "g", of(waiting(1, 9))}, entry{1, "g", api.Group{Next: 9, Kept: []api.Kept{given(4, 100, 1, 900)}}})
}

// P12.2: both groups are looked at, each by its queue's Keep: what is too old does not come back, and makes room.
func TestRedriveLooks(t *testing.T) {
	x := holding(t, withDead(1),
		entry{0, "g", of(many(12, 0)...)}, entry{0, "h", of(many(12, 0)...)},
		entry{1, "g", of(came(1, 500, 0), came(2, 501, 0))}, entry{1, "h", of(came(1, 500, 0))}, entry{2, "g", of(many(12, 0)...)})
	c := redrive(10)
	c.Time = 1000
	wantReply(t, "it", do(t, x, c), api.Reply{N: 1})
	wantState(t, "it", x,
		entry{0, "g", api.Group{Next: 14, Kept: []api.Kept{{Seq: 13, Sent: 1000, Body: "body 2"}}}}, entry{0, "h", of(many(12, 0)...)},
		entry{1, "g", api.Group{Next: 3}}, entry{1, "h", of(came(1, 500, 0))}, entry{2, "g", of(many(12, 0)...)})

	// A home that stays full has been looked at all the same.
	home := of(many(13, 600)...)
	home.Kept[0].Sent = 0
	x = holding(t, withDead(1), entry{0, "g", home}, entry{1, "g", of(came(2, 700, 0))})
	wantReply(t, "still full", do(t, x, c), api.Reply{})
	home.Kept = home.Kept[1:]
	wantState(t, "still full", x, entry{0, "g", home}, entry{1, "g", of(came(2, 700, 0))})
}

// P12.2: nothing to bring back: nothing comes.
func TestRedriveOfNothing(t *testing.T) {
	x := holding(t, withDead(1), entry{1, "h", of(came(1, 9, 0))}, entry{1, "e", tried("p")})
	was := state(x)
	for _, name := range []string{"g", "e", "", "other"} {
		c := redrive(10)
		c.Group = name
		wantReply(t, name, do(t, x, c), api.Reply{})
	}
	c := redrive(10)
	c.Queue, c.Group = 2, "h"
	wantReply(t, "another queue", do(t, x, c), api.Reply{})
	wantState(t, "behind that", x, was...)
}

// P12.2: of several errors the first one that is named.
func TestRedriveRefuses(t *testing.T) {
	here, there := namesIn(low, 1)[0], namesIn(high, 1)[0]
	x := holding(t, withDead(1), entry{1, here, of(given(1, 0, 1, 99))})
	narrow(t, x, low)
	for _, name := range []string{here, there, ""} {
		for _, q := range []int{math.MinInt, -1, 3, 6, math.MaxInt} {
			for _, most := range []int{0, 1, 10, 11} {
				refuses(t, "no queue", x, api.ErrQueue, api.Cmd{Kind: api.CmRedrive, Time: 3000, Queue: q, Group: name, Max: most})
			}
		}
		for _, most := range []int{math.MinInt, -1, 0, 11, 12, math.MaxInt} {
			refuses(t, fmt.Sprint("Max ", most), x, api.ErrArg, api.Cmd{Kind: api.CmRedrive, Time: 3000, Queue: 1, Group: name, Max: most})
		}
	}
	for _, most := range []int{1, 10} {
		refuses(t, "not served", x, api.ErrMoved, api.Cmd{Kind: api.CmRedrive, Time: 3000, Queue: 1, Group: there, Max: most})
		refuses(t, "not about it", x, api.ErrMoved, api.Cmd{Kind: api.CmRedrive, Time: 3000, Queue: 1, Group: here, Max: most}, high...)
		refuses(t, "busy", x, api.ErrBusy, api.Cmd{Kind: api.CmRedrive, Time: 50, Queue: 1, Group: here, Max: most})
	}
}
