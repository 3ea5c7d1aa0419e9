package group_test

import (
	"crypto/sha256"
	"encoding/hex"
	"fmt"
	"math"
	"slices"
	"strings"
	"testing"

	"raceway/api"
	"raceway/group"
)

// tokenOf is the document's words of a token that is made of a body.
func tokenOf(body string) string {
	sum := sha256.Sum256([]byte(body))
	return hex.EncodeToString(sum[:16])
}

// The chapter's example.
func TestExample(t *testing.T) {
	g, seq, e := send(t, group.Fresh(), 5, 0, "b", "t")
	if seq != 1 || e != api.OK {
		t.Errorf("Send: %d, error %d", seq, int(e))
	}
	sent := g
	g, seq, e = send(t, g, 5, 0, "b", "t")
	if seq != 1 || e != api.OK {
		t.Errorf("Send again: %d, error %d", seq, int(e))
	}
	wantGroup(t, "Send again", g, sent)
	g, got, dead := receive(t, g, 6, 1, 10, 0, 0)
	delivered := api.Kept{Seq: 1, Sent: 5, Count: 1, Until: 16, Body: "b"}
	wantList(t, "got", got, []api.Kept{delivered})
	wantList(t, "dead", dead, nil)
	wantGroup(t, "Receive", g, with(sent, delivered))
	_, got, dead = receive(t, g, 7, 1, 10, 0, 0)
	wantList(t, "got, in flight", got, nil)
	wantList(t, "dead, in flight", dead, nil)
	g, e = remove(t, g, 7, 1, 1)
	wantError(t, "Delete", e, api.OK)
	wantGroup(t, "Delete", g, with(sent))
}

// P11.1
func TestFresh(t *testing.T) {
	wantGroup(t, "Fresh", group.Fresh(), api.Group{Next: 1})
	if flying(t, group.Fresh(), 0) {
		t.Error("a fresh group is in flight")
	}
}

// P11.1: below its Until a message is in flight, and not at it.
func TestFlying(t *testing.T) {
	for _, x := range []struct {
		g   api.Group
		now int
		yes bool
	}{
		{of(), 0, false},
		{of(), maxTime, false},
		{of(msg(1, 0, 0)), 0, false},
		{of(msg(1, 1, 16)), 0, true},
		{of(msg(1, 1, 16)), 15, true},
		{of(msg(1, 1, 16)), 16, false},
		{of(msg(1, 1, 16)), 17, false},
		{of(msg(1, 0, 16)), 15, true},
		{of(msg(1, 9, 1)), 0, true},
		{of(msg(1, 1, maxTime)), maxTime - 1, true},
		{of(msg(1, 1, maxTime)), maxTime, false},
		{of(msg(1, 1, 16), msg(2, 1, 5), msg(3, 0, 0)), 15, true},
		{of(msg(1, 1, 5), msg(2, 1, 16), msg(3, 0, 0)), 15, true},
		{of(msg(1, 1, 5), msg(2, 1, 15), msg(3, 1, 16)), 15, true},
		{of(msg(1, 1, 5), msg(2, 1, 15), msg(3, 1, 14)), 15, false},
	} {
		if got := flying(t, x.g, x.now); got != x.yes {
			t.Errorf("Flying(%v, %d): %v", x.g, x.now, got)
		}
	}
}

// P11.2: by the time since a message was sent, and by nothing else of it.
func TestExpireMessages(t *testing.T) {
	sent := func(times ...int) api.Group {
		g := api.Group{Next: 9, Attempt: "a"}
		for i, at := range times {
			g.Kept = append(g.Kept, api.Kept{Seq: i + 1, Sent: at, Count: i, Until: 1000 * i, From: i, Body: "b"})
		}
		return g
	}
	for i, x := range []struct {
		now, keep int
		times     []int
		left      []int // places of those that stay
	}{
		{50, 10, nil, nil},
		{50, 10, []int{41}, []int{0}},
		{50, 10, []int{40}, nil},
		{50, 10, []int{39}, nil},
		{50, 10, []int{39, 40, 41, 42}, []int{2, 3}},
		{50, 10, []int{42, 40, 41, 39, 50}, []int{0, 2, 4}},
		{50, 10, []int{50, 51, 60, 61, maxTime}, []int{0, 1, 2, 3, 4}},
		{50, 0, []int{49, 50, 51, 0}, []int{2}},
		{0, 0, []int{0, 1}, []int{1}},
		{0, 1, []int{0, 1}, []int{0, 1}},
		{50, 1, []int{49, 50, 51}, []int{1, 2}},
		{50, 50, []int{0, 1}, []int{1}},
		{50, 51, []int{0, 1}, []int{0, 1}},
		{maxTime, maxTime, []int{0, 1, maxTime}, []int{1, 2}},
		{0, maxTime, []int{0, maxTime}, []int{0, 1}},
		{maxTime, 0, []int{0, maxTime}, nil},
		{50, 10, []int{1, 2, 3, 4, 5, 6, 7, 8, 9, 10, 11, 12}, nil},
	} {
		g := sent(x.times...)
		want := with(g)
		for _, at := range x.left {
			want.Kept = append(want.Kept, g.Kept[at])
		}
		wantGroup(t, fmt.Sprintf("%d: Expire(%d, %d)", i, x.now, x.keep), expire(t, g, x.now, x.keep), want)
	}
}

// P11.2: by the time since a token is remembered, whatever keep is.
func TestExpireTokens(t *testing.T) {
	for i, x := range []struct {
		now        int
		times      []int
		firstsLeft []int
	}{
		{1000, nil, nil},
		{1000, []int{1000 - window + 1}, []int{0}},
		{1000, []int{1000 - window}, nil},
		{1000, []int{1000 - window - 1}, nil},
		{1000, []int{701, 700, 699, 1000, 1001, 1300, 1301, maxTime, 0}, []int{0, 3, 4, 5, 6, 7}},
		{299, []int{0, 1}, []int{0, 1}},
		{300, []int{0, 1}, []int{1}},
		{301, []int{0, 1, 2}, []int{2}},
		{0, []int{0, 1, maxTime}, []int{0, 1, 2}},
		{maxTime, []int{0, maxTime - 300, maxTime - 299, maxTime}, []int{2, 3}},
	} {
		for _, keep := range []int{0, 1, window, maxTime} {
			g := api.Group{Next: 9, Attempt: "a", Kept: []api.Kept{{Seq: 1, Sent: maxTime, Body: "ahead"}}}
			want := g
			for j, at := range x.times {
				g.Marks = append(g.Marks, api.Mark{Token: fmt.Sprint(j), Seq: j, At: at})
			}
			for _, at := range x.firstsLeft {
				want.Marks = append(want.Marks, g.Marks[at])
			}
			if x.now == maxTime && keep == 0 {
				want.Kept = nil
			}
			wantGroup(t, fmt.Sprintf("%d: Expire(%d, %d)", i, x.now, keep), expire(t, g, x.now, keep), want)
		}
	}
}

// P11.2: a message goes while its token stays, and the other way round; one that is in flight goes, too.
func TestExpireOneWithoutTheOther(t *testing.T) {
	g := api.Group{Next: 3, Kept: []api.Kept{{Seq: 2, Sent: 100, Count: 1, Until: 900, Body: "b"}}, Marks: []api.Mark{{Token: "t", Seq: 2, At: 100}}}
	wantGroup(t, "the message", expire(t, g, 399, 299), api.Group{Next: 3, Marks: g.Marks})
	wantGroup(t, "the token", expire(t, g, 400, 301), api.Group{Next: 3, Kept: g.Kept})
	wantGroup(t, "both", expire(t, g, 400, 300), api.Group{Next: 3})
	wantGroup(t, "none", expire(t, g, 399, 300), g)
}

// P11.3: a message comes last, and its token is remembered.
func TestSend(t *testing.T) {
	g, seq, e := send(t, group.Fresh(), 5, 3, "one", "t")
	if seq != 1 || e != api.OK {
		t.Errorf("the first: %d, error %d", seq, int(e))
	}
	want := api.Group{Next: 2, Kept: []api.Kept{{Seq: 1, Sent: 5, From: 3, Body: "one"}}, Marks: []api.Mark{{Token: "t", Seq: 1, At: 5}}}
	wantGroup(t, "the first", g, want)
	g.Attempt, want.Attempt = "try", "try"
	g, seq, e = send(t, g, 2, 0, "", "u")
	if seq != 2 || e != api.OK {
		t.Errorf("the second: %d, error %d", seq, int(e))
	}
	want.Next = 3
	want.Kept = append(want.Kept, api.Kept{Seq: 2, Sent: 2})
	want.Marks = append(want.Marks, api.Mark{Token: "u", Seq: 2, At: 2})
	wantGroup(t, "the second", g, want)
}

// P11.3: behind others, whatever they are: in flight, delivered, of other numbers.
func TestSendBehindOthers(t *testing.T) {
	for _, l := range [][]api.Kept{nil, {msg(4, 0, 0)}, {msg(4, 1, 900), msg(7, 2, 5)}, waiting(11)} {
		g := of(l...)
		g.Next = 40
		out, seq, e := send(t, g, maxTime, maxTime, strings.Repeat("x", 200), "new")
		want := with(g, append(slices.Clone(l), api.Kept{Seq: 40, Sent: maxTime, From: maxTime, Body: strings.Repeat("x", 200)})...)
		want.Next, want.Marks = 41, append(slices.Clone(g.Marks), api.Mark{Token: "new", Seq: 40, At: maxTime})
		if seq != 40 || e != api.OK {
			t.Errorf("%d, error %d", seq, int(e))
		}
		wantGroup(t, "Send", out, want)
	}
}

// P11.3, P11.10: a token that is remembered: that message's number, and nothing new, for as long as Expire leaves it.
func TestSendOfRememberedToken(t *testing.T) {
	g := of(msg(1, 0, 0), msg(2, 1, 90))
	g.Marks = []api.Mark{{Token: "a", Seq: 2, At: 50}, {Token: "b", Seq: 1, At: 60}, {Token: "gone", Seq: 8, At: 70}, {Token: "a", Seq: 9, At: 80}, {Token: "", Seq: 5, At: 1}}
	for _, x := range []struct {
		token string
		seq   int
	}{{"a", 2}, {"b", 1}, {"gone", 8}} {
		for _, now := range []int{0, 50, 349, 350, 351, 100000, maxTime} {
			out, seq, e := send(t, g, now, 4, "another body", x.token)
			if seq != x.seq || e != api.OK {
				t.Errorf("%q at %d: %d, error %d", x.token, now, seq, int(e))
			}
			wantGroup(t, x.token, out, g)
		}
	}
	for _, token := range []string{"A", "aa", "a\x00", "gon", "gone ", "try"} {
		out, seq, e := send(t, g, 60, 4, "body 1", token)
		if seq != 3 || e != api.OK || len(out.Kept) != 3 || len(out.Marks) != 6 {
			t.Errorf("%q, which is not remembered: %d, error %d, %v", token, seq, int(e), out)
		}
	}
}

// P11.3: a token without bytes is made of the body.
func TestSendWithoutToken(t *testing.T) {
	if tokenOf("abc") != "ba7816bf8f01cfea414140de5dae2223" {
		t.Fatal(tokenOf("abc"))
	}
	for _, body := range []string{"", "abc", "b", "\x00\xff", strings.Repeat("long", 100)} {
		g := api.Group{Next: 7, Marks: []api.Mark{{Token: "", Seq: 5, At: 1}}}
		g, seq, e := send(t, g, 20, 0, body, "")
		if seq != 7 || e != api.OK {
			t.Errorf("%q: %d, error %d", body, seq, int(e))
		}
		want := []api.Mark{{Token: "", Seq: 5, At: 1}, {Token: tokenOf(body), Seq: 7, At: 20}}
		if !slices.Equal(g.Marks, want) {
			t.Errorf("%q: the tokens are %v, not %v", body, g.Marks, want)
		}
		for _, token := range []string{"", tokenOf(body)} {
			other := body
			if token != "" {
				other = "another body"
			}
			out, seq, e := send(t, g, 21, 1, other, token)
			if seq != 7 || e != api.OK {
				t.Errorf("%q again by %q: %d, error %d", body, token, seq, int(e))
			}
			wantGroup(t, "again", out, g)
		}
		out, seq, e := send(t, g, 21, 1, body+"!", "")
		if seq != 8 || e != api.OK || len(out.Kept) != 2 || out.Marks[2].Token != tokenOf(body+"!") {
			t.Errorf("%q and more: %d, error %d", body, seq, int(e))
		}
		out, seq, e = send(t, g, 21, 1, body, "its own")
		if seq != 8 || e != api.OK || len(out.Kept) != 2 {
			t.Errorf("%q with a token of its own: %d, error %d", body, seq, int(e))
		}
	}
}

// P11.3: a token that is another body's own stands for that body, from then on.
func TestSendWithTokenOfAnotherBody(t *testing.T) {
	g, seq, _ := send(t, group.Fresh(), 5, 0, "b", tokenOf("a"))
	if seq != 1 {
		t.Fatal(seq)
	}
	out, seq, e := send(t, g, 6, 0, "a", "")
	if seq != 1 || e != api.OK {
		t.Errorf("the body whose token it is: %d, error %d", seq, int(e))
	}
	wantGroup(t, "the body whose token it is", out, g)
	out, seq, e = send(t, g, 6, 0, "b", "")
	if seq != 2 || e != api.OK || len(out.Kept) != 2 {
		t.Errorf("the body that was sent: %d, error %d", seq, int(e))
	}
}

// P11.3: the twelfth message and the thirteenth, the fortieth token and the one behind it.
func TestSendToFullGroup(t *testing.T) {
	for _, x := range []struct {
		kept, marks int
		e           api.Errno
	}{
		{0, 0, api.OK}, {11, 0, api.OK}, {12, 0, api.ErrFull}, {13, 0, api.ErrFull}, {30, 0, api.ErrFull},
		{0, 39, api.OK}, {0, 40, api.ErrFull}, {0, 41, api.ErrFull}, {0, 90, api.ErrFull},
		{11, 39, api.OK}, {12, 39, api.ErrFull}, {11, 40, api.ErrFull}, {12, 40, api.ErrFull}, {13, 41, api.ErrFull},
	} {
		g := api.Group{Next: 50, Kept: waiting(x.kept), Marks: tokens(x.marks), Attempt: "try"}
		for _, token := range []string{"new", ""} {
			out, seq, e := send(t, g, 9, 2, "b", token)
			wantError(t, fmt.Sprintf("%d messages, %d tokens", x.kept, x.marks), e, x.e)
			if e == api.OK {
				if seq != 50 || len(out.Kept) != x.kept+1 || len(out.Marks) != x.marks+1 || out.Next != 51 {
					t.Errorf("%d messages, %d tokens: %d, %v", x.kept, x.marks, seq, out)
				}
				continue
			}
			if seq != 0 {
				t.Errorf("%d messages, %d tokens: the number %d", x.kept, x.marks, seq)
			}
			wantGroup(t, "a full group", out, g)
		}
		for i, m := range g.Marks {
			out, seq, e := send(t, g, 9, 2, "b", m.Token)
			if seq != 100+i || e != api.OK {
				t.Errorf("%d messages, %d tokens, %q: %d, error %d", x.kept, x.marks, m.Token, seq, int(e))
			}
			wantGroup(t, "a full group, and a token that it remembers", out, g)
		}
	}
}

// P11.3: one by one, until there is no room; room comes by deletions and by time.
func TestSendOneByOne(t *testing.T) {
	g := group.Fresh()
	for i := 1; i <= maxKept; i++ {
		out, seq, e := send(t, g, i, 0, fmt.Sprint(i), "")
		if seq != i || e != api.OK {
			t.Fatalf("message %d: %d, error %d", i, seq, int(e))
		}
		g = out
	}
	_, _, e := send(t, g, 20, 0, "13", "")
	wantError(t, "message 13", e, api.ErrFull)
	g, _, _ = receive(t, g, 20, 1, 10, 0, 0)
	_, _, e = send(t, g, 20, 0, "13", "")
	wantError(t, "with one in flight", e, api.ErrFull)
	g, _ = remove(t, g, 21, 1, 1)
	g, seq, e := send(t, g, 21, 0, "13", "")
	if seq != 13 || e != api.OK {
		t.Errorf("behind a deletion: %d, error %d", seq, int(e))
	}
	for i := 14; i <= maxTokens; i++ {
		g, _ = purge(t, g)
		if g, seq, e = send(t, g, 21, 0, fmt.Sprint(i), ""); seq != i || e != api.OK {
			t.Fatalf("message %d: %d, error %d", i, seq, int(e))
		}
	}
	_, _, e = send(t, g, 21, 0, "41", "")
	wantError(t, "token 41", e, api.ErrFull)
	if _, seq, e := send(t, g, 21, 0, "1", ""); seq != 1 || e != api.OK {
		t.Errorf("a token that is remembered: %d, error %d", seq, int(e))
	}
	g = expire(t, g, 1+window, maxTime)
	if _, seq, e = send(t, g, 301, 0, "1", ""); seq != 41 || e != api.OK {
		t.Errorf("a token that was let go: %d, error %d", seq, int(e))
	}
}

// receiving is a Receive and what it has to tell: who is delivered and who is dead, by places in the group.
type receiving struct {
	name                       string
	kept                       []api.Kept
	now, max, secs, most, room int
	got, dead                  []int
}

var receivings = []receiving{
	{"none", nil, 50, 5, 30, 0, 0, nil, nil},
	{"one", waiting(1), 50, 5, 30, 0, 0, []int{0}, nil},
	{"max 0", waiting(3), 50, 0, 30, 0, 0, nil, nil},
	{"max 1", waiting(3), 50, 1, 30, 0, 0, []int{0}, nil},
	{"max 2", waiting(3), 50, 2, 30, 0, 0, []int{0, 1}, nil},
	{"max 3", waiting(3), 50, 3, 30, 0, 0, []int{0, 1, 2}, nil},
	{"max 4", waiting(3), 50, 4, 30, 0, 0, []int{0, 1, 2}, nil},
	{"as many as may be", waiting(12), 50, maxTime, 30, 0, 0, []int{0, 1, 2, 3, 4, 5, 6, 7, 8, 9, 10, 11}, nil},
	{"secs 0", waiting(2), 50, 2, 0, 0, 0, []int{0, 1}, nil},
	{"at the end of time", waiting(1), maxTime, 1, maxTime, 0, 0, []int{0}, nil},
	{"sent ahead of now", waiting(2), 0, 2, 1, 0, 0, []int{0, 1}, nil},
	{"just in flight", []api.Kept{msg(1, 1, 51), msg(2, 0, 0)}, 50, 5, 30, 0, 0, nil, nil},
	{"just lapsed", []api.Kept{msg(1, 1, 50), msg(2, 0, 0)}, 50, 5, 30, 0, 0, []int{0, 1}, nil},
	{"long lapsed", []api.Kept{msg(1, 7, 49), msg(2, 3, 4)}, 50, 1, 30, 0, 0, []int{0}, nil},
	{"one behind is in flight", []api.Kept{msg(1, 1, 3), msg(2, 1, 51)}, 50, 5, 30, 0, 0, nil, nil},
	{"in flight, and one to die", []api.Kept{msg(1, 9, 3), msg(2, 1, 51)}, 50, 5, 30, 1, 5, nil, nil},
	{"most 0 lets none die", []api.Kept{msg(1, 1000, 0)}, 50, 5, 30, 0, 5, []int{0}, nil},
	{"Count below most", []api.Kept{msg(1, 2, 0)}, 50, 5, 30, 3, 5, []int{0}, nil},
	{"Count at most", []api.Kept{msg(1, 3, 0)}, 50, 5, 30, 3, 5, nil, []int{0}},
	{"Count above most", []api.Kept{msg(1, 4, 0)}, 50, 5, 30, 3, 5, nil, []int{0}},
	{"most 1, Count 0", []api.Kept{msg(1, 0, 0)}, 50, 5, 30, 1, 5, []int{0}, nil},
	{"most 1, Count 1", []api.Kept{msg(1, 1, 0)}, 50, 5, 30, 1, 5, nil, []int{0}},
	{"Count just below, at and above", []api.Kept{msg(1, 4, 0), msg(2, 3, 9), msg(3, 2, 0), msg(4, 3, 0), msg(5, 0, 0)}, 50, 5, 30, 3, 5, []int{2, 4}, []int{0, 1, 3}},
	{"room 0", []api.Kept{msg(1, 3, 0), msg(2, 0, 0)}, 50, 5, 30, 3, 0, nil, nil},
	{"room 0, behind another one", []api.Kept{msg(1, 2, 0), msg(2, 3, 0), msg(3, 0, 0)}, 50, 5, 30, 3, 0, []int{0}, nil},
	{"room 1", []api.Kept{msg(1, 3, 0), msg(2, 0, 0), msg(3, 3, 0), msg(4, 0, 0)}, 50, 5, 30, 3, 1, []int{1}, []int{0}},
	{"room 2", []api.Kept{msg(1, 3, 0), msg(2, 0, 0), msg(3, 3, 0), msg(4, 0, 0)}, 50, 5, 30, 3, 2, []int{1, 3}, []int{0, 2}},
	{"room for just as many", []api.Kept{msg(1, 3, 0), msg(2, 3, 0)}, 50, 5, 30, 3, 2, nil, []int{0, 1}},
	{"room for one less", []api.Kept{msg(1, 3, 0), msg(2, 3, 0)}, 50, 5, 30, 3, 1, nil, []int{0}},
	{"max 0 lets none die", []api.Kept{msg(1, 3, 0)}, 50, 0, 30, 3, 5, nil, nil},
	{"got is full ahead of one to die", []api.Kept{msg(1, 0, 0), msg(2, 3, 0), msg(3, 0, 0)}, 50, 1, 30, 3, 5, []int{0}, nil},
	{"got is full behind one that dies", []api.Kept{msg(1, 3, 0), msg(2, 0, 0), msg(3, 0, 0)}, 50, 1, 30, 3, 5, []int{1}, []int{0}},
	{"got and dead are full at one", []api.Kept{msg(1, 3, 0), msg(2, 0, 0), msg(3, 3, 0), msg(4, 0, 0)}, 50, 1, 30, 3, 1, []int{1}, []int{0}},
	{"all die", []api.Kept{msg(1, 1, 0), msg(2, 1, 0), msg(3, 1, 0)}, 50, 1, 30, 1, 12, nil, []int{0, 1, 2}},
	{"a Count that comes to most", []api.Kept{msg(1, 2, 0), msg(2, 2, 0)}, 50, 2, 30, 3, 12, []int{0, 1}, nil},
	{"a plain group's number", []api.Kept{{}}, 0, 1, 0, 0, 0, []int{0}, nil},
}

// P11.4
func TestReceive(t *testing.T) {
	for _, x := range receivings {
		g := of(x.kept...)
		var got, dead, kept []api.Kept
		for i, m := range x.kept {
			if slices.Contains(x.got, i) {
				m.Count, m.Until = m.Count+1, x.now+x.secs
				got = append(got, m)
			}
			if slices.Contains(x.dead, i) {
				dead = append(dead, m)
				continue
			}
			kept = append(kept, m)
		}
		out, gotten, died := receive(t, g, x.now, x.max, x.secs, x.most, x.room)
		wantGroup(t, x.name, out, with(g, kept...))
		wantList(t, x.name+": got", gotten, got)
		wantList(t, x.name+": dead", died, dead)
	}
}

// P11.4: a message is delivered again behind its time, until it was delivered as often as it may be.
func TestReceiveAgainAndAgain(t *testing.T) {
	g := of(waiting(2)...)
	for i := range 3 {
		now := 100 * i
		var got, dead []api.Kept
		g, got, dead = receive(t, g, now, 1, 10, 3, 1)
		wantList(t, "got", got, []api.Kept{msg(1, i+1, now+10)})
		wantList(t, "dead", dead, nil)
		out, got, dead := receive(t, g, now+9, 1, 10, 3, 1)
		wantGroup(t, "in flight", out, g)
		wantList(t, "got, in flight", got, nil)
		wantList(t, "dead, in flight", dead, nil)
	}
	g, got, dead := receive(t, g, 210, 1, 10, 3, 1)
	wantList(t, "got, at last", got, []api.Kept{msg(2, 1, 220)})
	wantList(t, "dead, at last", dead, []api.Kept{msg(1, 3, 210)})
	wantGroup(t, "at last", g, with(g, msg(2, 1, 220)))
}

// P11.5
func TestAgain(t *testing.T) {
	some := []api.Kept{msg(1, 1, 51), msg(2, 2, 50), msg(3, 1, 99), msg(4, 0, 0), msg(5, 4, 60)}
	for _, x := range []struct {
		name     string
		kept     []api.Kept
		own      string
		now, max int
		attempt  string
		want     []api.Kept
	}{
		{"all", some, "try", 50, 12, "try", []api.Kept{some[0], some[2], some[4]}},
		{"as many as there are", some, "try", 50, 3, "try", []api.Kept{some[0], some[2], some[4]}},
		{"max 2", some, "try", 50, 2, "try", []api.Kept{some[0], some[2]}},
		{"max 1", some, "try", 50, 1, "try", []api.Kept{some[0]}},
		{"max 0", some, "try", 50, 0, "try", nil},
		{"a second earlier", some, "try", 49, 12, "try", []api.Kept{some[0], some[1], some[2], some[4]}},
		{"a second later", some, "try", 51, 12, "try", []api.Kept{some[2], some[4]}},
		{"when the last one lapses", some, "try", 98, 12, "try", []api.Kept{some[2]}},
		{"not in flight any more", some, "try", 99, 12, "try", nil},
		{"never in flight", waiting(3), "try", 0, 12, "try", nil},
		{"no messages", nil, "try", 0, 12, "try", nil},
		{"another attempt", some, "try", 50, 12, "other", nil},
		{"a beginning of it", some, "try", 50, 12, "tr", nil},
		{"more than it", some, "try", 50, 12, "try ", nil},
		{"other letters", some, "try", 50, 12, "Try", nil},
		{"no attempt", some, "try", 50, 12, "", nil},
		{"no attempt of either", some, "", 50, 12, "", nil},
		{"none of the group", some, "", 50, 12, "try", nil},
	} {
		g := of(x.kept...)
		g.Attempt = x.own
		wantList(t, x.name, again(t, g, x.now, x.max, x.attempt), x.want)
	}
}

// P11.5: what a delivery told is told again, with the same receipts.
func TestAgainBehindReceive(t *testing.T) {
	g, got, _ := receive(t, of(waiting(5)...), 50, 3, 10, 0, 0)
	g.Attempt = "first"
	for now := 50; now < 60; now++ {
		wantList(t, "again", again(t, g, now, 3, "first"), got)
	}
	wantList(t, "lapsed", again(t, g, 60, 3, "first"), nil)
	g, _ = remove(t, g, 55, 2, 1)
	wantList(t, "behind a deletion", again(t, g, 55, 3, "first"), []api.Kept{got[0], got[2]})
}

// about is a receipt, and what Delete and Change have to tell of it.
type about struct {
	name            string
	kept            []api.Kept
	now, seq, count int
	at              int // the place of the message that it is about
	e               api.Errno
}

var abouts = []about{
	{"the first", []api.Kept{msg(1, 1, 60), msg(2, 1, 60), msg(3, 1, 60)}, 50, 1, 1, 0, api.OK},
	{"the second", []api.Kept{msg(1, 1, 60), msg(2, 1, 60), msg(3, 1, 60)}, 50, 2, 1, 1, api.OK},
	{"the last", []api.Kept{msg(1, 1, 60), msg(2, 1, 60), msg(3, 1, 60)}, 50, 3, 1, 2, api.OK},
	{"the only one", []api.Kept{msg(1, 7, 60)}, 50, 1, 7, 0, api.OK},
	{"none is kept", nil, 50, 1, 1, 0, api.ErrNone},
	{"not kept", []api.Kept{msg(1, 1, 60), msg(3, 1, 60)}, 50, 2, 1, 0, api.ErrNone},
	{"number 0", []api.Kept{msg(1, 1, 60)}, 50, 0, 1, 0, api.ErrNone},
	{"a number of the time to come", []api.Kept{msg(1, 1, 60)}, 50, maxTime, 1, 0, api.ErrNone},
	{"a Count below", []api.Kept{msg(1, 2, 60)}, 50, 1, 1, 0, api.ErrReceipt},
	{"a Count above", []api.Kept{msg(1, 2, 60)}, 50, 1, 3, 0, api.ErrReceipt},
	{"Count 0", []api.Kept{msg(1, 2, 60)}, 50, 1, 0, 0, api.ErrReceipt},
	{"Count 0 of a message in flight", []api.Kept{msg(1, 0, 60)}, 50, 1, 0, 0, api.OK},
	{"just in flight", []api.Kept{msg(1, 1, 51)}, 50, 1, 1, 0, api.OK},
	{"lapsed at this very time", []api.Kept{msg(1, 1, 50)}, 50, 1, 1, 0, api.ErrLapsed},
	{"lapsed a second ago", []api.Kept{msg(1, 1, 49)}, 50, 1, 1, 0, api.ErrLapsed},
	{"never delivered", []api.Kept{msg(1, 0, 0)}, 50, 1, 0, 0, api.ErrLapsed},
	{"another Count, and lapsed", []api.Kept{msg(1, 2, 50)}, 50, 1, 1, 0, api.ErrReceipt},
	{"lapsed, while another one is in flight", []api.Kept{msg(1, 1, 50), msg(2, 1, 51)}, 50, 1, 1, 0, api.ErrLapsed},
	{"in flight, while another one is lapsed", []api.Kept{msg(1, 1, 50), msg(2, 1, 51)}, 50, 2, 1, 1, api.OK},
	{"a number that two have", []api.Kept{msg(1, 1, 60), msg(2, 1, 60), msg(2, 1, 70), msg(3, 1, 60)}, 50, 2, 1, 1, api.OK},
	{"a number that two have, of the second's Count", []api.Kept{msg(2, 1, 60), msg(2, 2, 60)}, 50, 2, 2, 0, api.ErrReceipt},
	{"a number that two have, the first lapsed", []api.Kept{msg(2, 1, 50), msg(2, 1, 60)}, 50, 2, 1, 0, api.ErrLapsed},
	{"at the end of time", []api.Kept{msg(1, 1, maxTime)}, maxTime - 1, 1, 1, 0, api.OK},
}

// P11.6
func TestDelete(t *testing.T) {
	for _, x := range abouts {
		g := of(x.kept...)
		var want api.Group
		wanted := x.e
		switch x.e {
		case api.OK:
			want = with(g, append(slices.Clone(x.kept[:x.at]), x.kept[x.at+1:]...)...)
		case api.ErrNone:
			want, wanted = g, api.OK
		}
		out, e := remove(t, g, x.now, x.seq, x.count)
		wantError(t, x.name, e, wanted)
		wantGroup(t, x.name, out, want)
	}
}

// P11.6
func TestChange(t *testing.T) {
	for _, x := range abouts {
		for _, secs := range []int{0, 1, 1000, maxTime} {
			g := of(x.kept...)
			var want api.Group
			if x.e == api.OK {
				want = with(g, slices.Clone(x.kept)...)
				want.Kept[x.at].Until = x.now + secs
			}
			out, e := change(t, g, x.now, x.seq, x.count, secs)
			wantError(t, x.name, e, x.e)
			wantGroup(t, x.name, out, want)
		}
	}
}

// P11.6: a change to no time at all ends the flight at once, a later one lengthens or shortens it.
func TestChangeOfTime(t *testing.T) {
	g, _, _ := receive(t, of(waiting(1)...), 50, 1, 10, 0, 0)
	ended, e := change(t, g, 55, 1, 1, 0)
	if e != api.OK || flying(t, ended, 55) || !flying(t, ended, 54) {
		t.Errorf("ended: error %d, %v", int(e), ended)
	}
	if _, e := change(t, ended, 55, 1, 1, 9); e != api.ErrLapsed {
		t.Errorf("changed behind its end: error %d", int(e))
	}
	longer, e := change(t, g, 59, 1, 1, 100)
	if e != api.OK || !flying(t, longer, 158) || flying(t, longer, 159) {
		t.Errorf("longer: error %d, %v", int(e), longer)
	}
	if out, e := remove(t, longer, 158, 1, 1); e != api.OK || len(out.Kept) != 0 {
		t.Errorf("deleted in its longer time: error %d, %v", int(e), out)
	}
}

// P11.7
func TestPurge(t *testing.T) {
	for _, l := range [][]api.Kept{nil, {}, waiting(1), waiting(12), {msg(1, 1, maxTime), msg(2, 0, 0)}, waiting(20)} {
		g := of(l...)
		g.Next = 44
		out, n := purge(t, g)
		if n != len(l) {
			t.Errorf("%d messages, not %d", n, len(l))
		}
		wantGroup(t, "Purge", out, with(g))
	}
	out, n := purge(t, api.Group{})
	if n != 0 {
		t.Error(n)
	}
	wantGroup(t, "Purge of a plain one", out, api.Group{})
}

// P11.7: the tokens stay, and bring the numbers of what is gone.
func TestSendBehindPurge(t *testing.T) {
	g, _, _ := send(t, group.Fresh(), 5, 0, "b", "t")
	g, n := purge(t, g)
	out, seq, e := send(t, g, 6, 0, "b", "t")
	if n != 1 || seq != 1 || e != api.OK {
		t.Errorf("%d, %d, error %d", n, seq, int(e))
	}
	wantGroup(t, "Send", out, g)
}

// P11.8
func TestTake(t *testing.T) {
	mixed := []api.Kept{from(1, 2), from(2, 3), from(3, 1), from(4, 2)}
	lapsed := []api.Kept{msg(1, 2, 50), msg(2, 1, 49)}
	busy := []api.Kept{msg(1, 0, 0), msg(2, 1, 51)}
	for _, x := range []struct {
		name              string
		kept              []api.Kept
		now, own, n, room int
		taken             int
		e                 api.Errno
	}{
		{"none is kept", nil, 50, 1, 5, 5, 0, api.OK},
		{"one", waiting(1), 50, 1, 5, 5, 1, api.OK},
		{"all", waiting(12), 50, 1, 12, 12, 12, api.OK},
		{"n 0", waiting(3), 50, 1, 0, 5, 0, api.OK},
		{"n 1", waiting(3), 50, 1, 1, 5, 1, api.OK},
		{"n below room", waiting(5), 50, 1, 2, 3, 2, api.OK},
		{"n at room", waiting(5), 50, 1, 3, 3, 3, api.OK},
		{"n above room", waiting(5), 50, 1, 4, 3, 3, api.OK},
		{"room 0", waiting(3), 50, 1, 5, 0, 0, api.OK},
		{"room 1", waiting(3), 50, 1, 5, 1, 1, api.OK},
		{"n and room 0", waiting(3), 50, 1, 0, 0, 0, api.OK},
		{"n and room above all", waiting(3), 50, 1, maxTime, maxTime, 3, api.OK},
		{"own at the front", []api.Kept{from(1, 1), from(2, 2)}, 50, 1, 5, 5, 0, api.OK},
		{"own in the middle", mixed, 50, 1, 5, 5, 2, api.OK},
		{"own in the middle, behind n", mixed, 50, 1, 1, 5, 1, api.OK},
		{"own at the end", []api.Kept{from(1, 2), from(2, 0), from(3, 1)}, 50, 1, 5, 5, 2, api.OK},
		{"all own", []api.Kept{from(1, 1), from(2, 1)}, 50, 1, 5, 5, 0, api.OK},
		{"own 0", []api.Kept{from(1, 1), from(2, 0)}, 50, 0, 5, 5, 1, api.OK},
		{"another own", mixed, 50, 3, 5, 5, 1, api.OK},
		{"lapsed at this very time", lapsed, 50, 1, 5, 5, 2, api.OK},
		{"in flight a second ago", lapsed, 49, 1, 5, 5, 0, api.ErrBusy},
		{"one behind is in flight", busy, 50, 1, 1, 1, 0, api.ErrBusy},
		{"in flight, n 0", busy, 50, 1, 0, 5, 0, api.OK},
		{"in flight, room 0", busy, 50, 1, 5, 0, 0, api.OK},
		{"in flight, n and room 0", busy, 50, 1, 0, 0, 0, api.OK},
		{"in flight, and own at the front", []api.Kept{{Seq: 1, Until: 51, From: 1}}, 50, 1, 1, 1, 0, api.ErrBusy},
	} {
		g := of(x.kept...)
		want := with(g, x.kept[x.taken:]...)
		if x.e != api.OK {
			want = api.Group{}
		}
		out, l, e := take(t, g, x.now, x.own, x.n, x.room)
		wantError(t, x.name, e, x.e)
		wantGroup(t, x.name, out, want)
		wantList(t, x.name, l, x.kept[:x.taken])
	}
}

// P11.8
func TestPut(t *testing.T) {
	some := []api.Kept{{Seq: 9, Sent: 900, Count: 3, Until: 5000, From: 4, Body: "nine"}, {Seq: 2, Sent: 0, Count: 0, Until: 0, From: 0, Body: ""}}
	for _, x := range []struct {
		name string
		kept int
		l    []api.Kept
	}{
		{"none into none", 0, nil},
		{"none into some", 3, []api.Kept{}},
		{"into none", 0, some},
		{"into some", 3, some},
		{"into one that is nearly full", 11, some},
		{"into a full one", 12, some},
		{"none into a full one", 12, nil},
		{"more than fit", 5, slices.Repeat(some, 10)},
	} {
		for _, now := range []int{0, 70, maxTime} {
			g := of(waiting(x.kept)...)
			g.Next, g.Marks = 30, tokens(maxTokens)
			want := with(g, waiting(x.kept)...)
			for _, m := range x.l {
				want.Kept = append(want.Kept, api.Kept{Seq: want.Next, Sent: now, From: m.From, Body: m.Body})
				want.Next++
			}
			wantGroup(t, x.name, put(t, g, now, x.l), want)
		}
	}
}

// P11.8: what is put into a group that is in flight comes behind what is.
func TestPutIntoGroupInFlight(t *testing.T) {
	g, _, _ := receive(t, of(waiting(2)...), 50, 1, 10, 0, 0)
	out := put(t, g, 55, []api.Kept{msg(7, 3, 900)})
	want := with(g, msg(1, 1, 60), msg(2, 0, 0), api.Kept{Seq: 3, Sent: 55, Body: "body 7"})
	want.Next = 4
	wantGroup(t, "Put", out, want)
	if _, got, _ := receive(t, out, 59, 5, 1, 0, 0); len(got) != 0 {
		t.Error(got)
	}
}

// P11.8: what a receive lets die is put elsewhere, and taken back from there.
func TestThereAndBack(t *testing.T) {
	g := group.Fresh()
	for _, body := range []string{"a", "b", "c"} {
		g, _, _ = send(t, g, 1, 4, body, "")
	}
	g, _, _ = receive(t, g, 2, 2, 3, 1, 9)
	g, got, dead := receive(t, g, 5, 9, 3, 1, 9)
	if len(got) != 1 || len(dead) != 2 {
		t.Fatal(got, dead)
	}
	other, _, _ := send(t, group.Fresh(), 1, 8, "own", "")
	other, _ = purge(t, other)
	other = put(t, other, 6, dead)
	wantList(t, "put", other.Kept, []api.Kept{{Seq: 2, Sent: 6, From: 4, Body: "a"}, {Seq: 3, Sent: 6, From: 4, Body: "b"}})
	other, _, _ = send(t, other, 7, 8, "c", "")
	other, back, e := take(t, other, 7, 8, 9, 9)
	if e != api.OK || len(back) != 2 || len(other.Kept) != 1 {
		t.Fatal(int(e), back, other)
	}
	g = put(t, g, 9, back)
	wantList(t, "put back", g.Kept, []api.Kept{{Seq: 3, Sent: 1, Count: 1, Until: 8, From: 4, Body: "c"}, {Seq: 4, Sent: 9, From: 4, Body: "a"}, {Seq: 5, Sent: 9, From: 4, Body: "b"}})
}

// Rule 1: whatever numbers come in, calls end, and none panics; nothing more is promised of them.
func TestNumbersThatMayNotBe(t *testing.T) {
	odd := []int{math.MinInt, math.MinInt + 1, -1 << 40, -1, 0, 1, maxTime + 1, math.MaxInt - 1, math.MaxInt}
	for _, a := range odd {
		for _, b := range odd {
			m := api.Kept{Seq: a, Sent: b, Count: a, Until: b, From: a, Body: "b"}
			g := api.Group{Next: a, Kept: []api.Kept{m, msg(1, 0, 0), m}, Marks: []api.Mark{{Token: "t", Seq: a, At: b}}, Attempt: "a"}
			for _, c := range odd {
				for _, g := range []api.Group{g, {}, of(waiting(3)...)} {
					group.Expire(g, a, c)
					group.Flying(g, c)
					group.Send(g, a, c, "b", "")
					group.Receive(g, c, a, b, a, b)
					group.Receive(g, a, c, b, b, c)
					group.Receive(g, a, b, c, c, a)
					group.Again(g, c, a, "a")
					group.Delete(g, c, a, b)
					group.Change(g, c, a, b, c)
					group.Purge(g)
					group.Take(g, c, a, b, a)
					group.Take(g, a, c, c, b)
					group.Put(g, c, []api.Kept{m, m})
					group.Dump(g)
				}
			}
		}
	}
}
