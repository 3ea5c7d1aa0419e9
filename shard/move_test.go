package shard_test

import (
	"fmt"
	"slices"
	"strings"
	"testing"

	"raceway/api"
	"raceway/shard"
)

// frozen is what a freeze answers.
func frozen(r api.Range, sessions []asked, groups []entry) api.Reply {
	return api.Reply{Data: packed(sessions, groups), About: list(r)}
}

// P14.2: all, a part, and what is served by ranges that touch: what is cut is told, and is gone; the rest stays.
func TestFreeze(t *testing.T) {
	groups, sessions := scattered(20), clients(3, 9)
	for _, c := range []struct {
		r    api.Range
		left []api.Range
	}{
		{from(0, span), nil}, {from(0, span/2), high}, {from(span/2, span), low}, {from(20000, 50000), list(from(0, 20000), from(50000, span))},
		{from(0, 1), list(from(1, span))}, {from(span-1, span), list(from(0, span-1))},
	} {
		s := holding(t, slices.Concat(high, low), sessions, groups)
		was := pictureOf(s)
		name := fmt.Sprint("a freeze of ", c.r)
		cmd := api.Cmd{Kind: api.CmFreeze, Client: 8, Num: 1, Time: 50, Range: c.r, To: 3, Data: []string{"no matter"}}
		reply := frozen(c.r, sessions, inside(groups, c.r))
		wantDone(t, name, do(t, s, cmd), api.Done{Slot: 2, Time: 50, Cmd: cmd, Reply: reply, Fresh: true})
		want := was.behind(50).noting(asked{8, 1, reply})
		want.served, want.groups = c.left, outside(groups, c.r)
		wantPicture(t, name, s, want)
		// Once more by the same number: the same Data. By another one: there is nothing of it here.
		wantDone(t, name+", once more", do(t, s, cmd), api.Done{Slot: 3, Time: 50, Cmd: cmd, Reply: reply})
		cmd.Num = 2
		wantDone(t, name+", then", do(t, s, cmd), api.Done{Slot: 4, Time: 50, Cmd: cmd, Reply: api.Reply{Err: api.ErrArg}, Fresh: true})
	}
}

// P14.2: what the engine does not cut: the empty range, what is not served, and what is served in part.
func TestFreezeRefuses(t *testing.T) {
	served := list(from(100, 20000), from(30000, 50000))
	groups := inside(scattered(12), served...)
	for _, r := range list(from(0, 0), whole[0], from(0, 100), from(99, 101), from(99, 20000), from(100, 20001), from(19999, 30001), from(20000, 30000), from(100, 50000), from(50000, span), from(0, 1)) {
		s := holding(t, served, clients(2, 1), groups)
		was := pictureOf(s)
		c := api.Cmd{Kind: api.CmFreeze, Client: 9, Num: 4, Time: 60, Range: r}
		wantDone(t, fmt.Sprint("a freeze of ", r), do(t, s, c), api.Done{Slot: 2, Time: 60, Cmd: c, Reply: api.Reply{Err: api.ErrArg}, Fresh: true})
		wantPicture(t, fmt.Sprint("a freeze of ", r), s, was.behind(60).noting(asked{9, 4, api.Reply{Err: api.ErrArg}}))
	}
}

// P14.2: replies that have Data stay where they are; those of errors go, too.
func TestFreezeTellsSessionsWithoutData(t *testing.T) {
	s := holding(t, whole, nil, scattered(6))
	did(t, s, api.Cmd{Kind: api.CmFreeze, Client: 30, Num: 1, Range: from(0, 1000)})
	did(t, s, api.Cmd{Kind: api.CmSend, Client: 31, Num: 7, Group: namesIn(high, 1)[0], Body: "b", Token: "u"})
	do(t, s, api.Cmd{Kind: api.CmChart, Client: 29, Num: 2})
	did(t, s, api.Cmd{Kind: api.CmReceive, Client: 28, Num: 6, Max: 2, Queue: 1, Secs: 5})
	all := pictureOf(s).sessions
	told := slices.DeleteFunc(slices.Clone(all), func(x asked) bool { return len(x.reply.Data) > 0 })
	if len(all) != 4 || len(told) != 3 {
		t.Fatalf("%d and %d sessions", len(all), len(told))
	}
	r := from(2000, span)
	want := frozen(r, told, inside(pictureOf(s).groups, r))
	// The freeze's own reply is not yet there when it is told.
	if got := did(t, s, api.Cmd{Kind: api.CmFreeze, Client: 28, Num: 7, Range: r}); !sameReply(got, want) {
		t.Errorf("it tells\n%s, not\n%s", brief(got), brief(want))
	}
	want = frozen(from(1000, 2000), slices.DeleteFunc(told, func(x asked) bool { return x.client == 28 }), nil)
	if got := did(t, s, api.Cmd{Kind: api.CmFreeze, Range: from(1000, 2000)}); !sameReply(got, want) {
		t.Errorf("then it tells\n%s, not\n%s", brief(got), brief(want))
	}
}

// importSize is how many bytes the longest import of some Data has.
func importSize(r api.Range, data []string) int {
	return len(value(api.Cmd{Kind: api.CmImport, Client: maxTime, Num: maxTime, Time: maxTime, Range: r, Data: data}))
}

// filled gives groups of one queue, in these places, whose import with these sessions has just so many bytes.
func filled(t *testing.T, r api.Range, sessions []asked, size int) []entry {
	t.Helper()
	names := namesIn(list(r), 9)
	var groups []entry
	for _, name := range names[:8] {
		groups = append(groups, entry{0, name, of(api.Kept{Seq: 1, Sent: 1, Body: strings.Repeat("b", 3900)})})
	}
	groups = append(groups, entry{0, names[8], of(api.Kept{Seq: 1, Sent: 1, Body: strings.Repeat("b", 300)})})
	body := &groups[8].g.Kept[0].Body
	*body += strings.Repeat("c", size-importSize(r, packed(sessions, groups)))
	if got := importSize(r, packed(sessions, groups)); got != size {
		t.Fatalf("%d bytes, not %d", got, size)
	}
	return groups
}

// wantTooLong checks that a freeze is refused, and nothing is cut.
func wantTooLong(t *testing.T, name string, s *shard.Shard, r api.Range) {
	t.Helper()
	was := pictureOf(s)
	c := api.Cmd{Kind: api.CmFreeze, Client: 60, Num: 1 + s.Sessions().Last(60), Time: was.now, Range: r}
	reply := api.Reply{Err: api.ErrLong}
	wantDone(t, name, do(t, s, c), api.Done{Slot: was.slots, Time: was.now, Cmd: c, Reply: reply, Fresh: true})
	wantPicture(t, name, s, was.behind(was.now).noting(asked{60, c.Num, reply}))
}

// P14.2: an import of just 2^15 bytes may be, one of one more may not; whoever asks, and when.
func TestFreezeAtTheLimit(t *testing.T) {
	for _, r := range list(whole[0], low[0], from(1, 65000)) {
		for _, sessions := range [][]asked{nil, clients(5, 300)} {
			for _, who := range []api.Cmd{{}, {Client: 1, Num: 301, Time: 5}, {Client: maxTime, Num: maxTime, Time: maxTime}} {
				name := fmt.Sprintf("a freeze of %v with %d sessions", r, len(sessions))
				groups := filled(t, r, sessions, maxImport)
				s := holding(t, list(r), sessions, groups)
				c := who
				c.Kind, c.Range, c.To = api.CmFreeze, r, maxTime
				if got := did(t, s, c); !sameReply(got, frozen(r, sessions, groups)) {
					t.Errorf("%s: it tells %s", name, brief(got))
				}
				s = holding(t, list(r), sessions, filled(t, r, sessions, maxImport+1))
				was := pictureOf(s)
				wantDone(t, name+", a byte more", do(t, s, c), api.Done{Slot: 1, Time: c.Time, Cmd: c, Reply: api.Reply{Err: api.ErrLong}, Fresh: true})
				want := was.behind(c.Time)
				if c.Client > 0 {
					want = want.noting(asked{c.Client, c.Num, api.Reply{Err: api.ErrLong}})
				}
				wantPicture(t, name+", a byte more", s, want)
			}
		}
	}
}

// P14.2: what is too long as a whole may be cut piece by piece; sessions count, unless they have Data.
func TestFreezeCountsWhatItTells(t *testing.T) {
	groups := filled(t, whole[0], nil, maxImport)
	s := holding(t, whole, nil, groups)
	did(t, s.Copy(), api.Cmd{Kind: api.CmFreeze, Range: whole[0]})
	// A reply with Data is not told: it takes no room.
	with := holding(t, slices.Concat(low, high), nil, groups)
	did(t, with, api.Cmd{Kind: api.CmFreeze, Client: 1, Num: 1, Range: low[0]})
	did(t, with, api.Cmd{Kind: api.CmImport, Range: low[0], Data: packed(nil, inside(groups, low[0]))})
	did(t, with, api.Cmd{Kind: api.CmFreeze, Range: whole[0]})
	did(t, s, api.Cmd{Kind: api.CmNothing, Client: 1, Num: 1})
	wantTooLong(t, "with a session more", s, whole[0])
	wantTooLong(t, "with a session more, once more", s, whole[0])
	did(t, s, api.Cmd{Kind: api.CmFreeze, Range: low[0]})
	did(t, s, api.Cmd{Kind: api.CmFreeze, Range: high[0]})
	if p := pictureOf(s); len(p.groups)+len(p.served) > 0 {
		t.Errorf("there is something left: %s", brief(p))
	}
}

// P14.2: an import that has no bytes: of more than 1024 texts, though they are short enough together.
func TestFreezeOfTooManyTexts(t *testing.T) {
	names := namesIn(low, 512)
	names = append(names, namesIn(high, 512)...)
	var groups []entry
	for _, name := range names {
		groups = append(groups, entry{0, name, of()})
	}
	s := holding(t, slices.Concat(low, high), nil, groups[:1023])
	if r := did(t, s.Copy(), api.Cmd{Kind: api.CmFreeze, Range: whole[0]}); len(r.Data) != maxItems || importSize(whole[0], r.Data) > maxImport {
		t.Errorf("1023 groups: %d texts", len(r.Data))
	}
	with := s.Copy()
	did(t, with, api.Cmd{Kind: api.CmNothing, Client: 1, Num: 1})
	wantTooLong(t, "1023 groups and a session", with, whole[0])
	s = holding(t, slices.Concat(low, high), nil, groups)
	wantTooLong(t, "1024 groups", s, whole[0])
	did(t, s, api.Cmd{Kind: api.CmFreeze, Range: low[0]})
}

// longGroup is a group whose text has just so many bytes.
func longGroup(t *testing.T, name string, size int) entry {
	t.Helper()
	x := entry{0, name, of(api.Kept{Seq: 1, Sent: 1, Body: strings.Repeat("b", 3000)})}
	x.g.Kept[0].Body += strings.Repeat("c", size-len(groupText(x)))
	if len(groupText(x)) != size {
		t.Fatalf("%d bytes, not %d", len(groupText(x)), size)
	}
	return x
}

// P14.2: an import that has no bytes: of a text of more than 4096 of them, though the engine cuts it; and what the engine does not cut.
func TestFreezeOfLongTexts(t *testing.T) {
	name := namesIn(low, 1)[0]
	s := holding(t, whole, nil, []entry{longGroup(t, name, maxText)})
	did(t, s.Copy(), api.Cmd{Kind: api.CmFreeze, Range: whole[0]})
	// An attempt makes the group's text longer.
	did(t, s, api.Cmd{Kind: api.CmReceive, Time: 3, Max: 1, Secs: 5, Attempt: "p"})
	if l, e := s.Engine().Cut(whole[0]); e != api.OK || len(l[0]) != maxText+1 {
		t.Fatalf("a text of %d bytes, error %d", len(l[0]), int(e))
	}
	wantTooLong(t, "a text of 4097 bytes", s, whole[0])
	did(t, s.Copy(), api.Cmd{Kind: api.CmFreeze, Range: high[0]})
	did(t, s, api.Cmd{Kind: api.CmReceive, Time: 20, Max: 1, Secs: 5, Attempt: strings.Repeat("p", 32)})
	if _, e := s.Engine().Cut(whole[0]); e != api.ErrLong {
		t.Fatalf("Cut of a long group: error %d", int(e))
	}
	wantTooLong(t, "what is not cut", s, whole[0])
}

// P14.2: the engine's own error of a group that has no text, another one than ErrLong.
func TestFreezeTellsTheEnginesError(t *testing.T) {
	name := namesIn(low, 1)[0]
	s := holding(t, whole, nil, []entry{{0, name, api.Group{Next: maxNum}}})
	did(t, s, api.Cmd{Kind: api.CmSend, Time: 5, Group: name, Body: "b"})
	_, e := s.Engine().Cut(low[0])
	if e == api.OK || e == api.ErrLong {
		t.Fatalf("Cut: error %d", int(e))
	}
	was := pictureOf(s)
	c := api.Cmd{Kind: api.CmFreeze, Time: 5, Range: low[0]}
	wantDone(t, "a freeze", do(t, s, c), api.Done{Slot: was.slots, Time: 5, Cmd: c, Reply: api.Reply{Err: e}, Fresh: true})
	wantPicture(t, "a freeze", s, was.behind(5))
	if l, got := s.Dump(); len(l) > 0 || got != e {
		t.Errorf("Dump: %d texts, error %d, not %d", len(l), int(got), int(e))
	}
}

// P14.2: what a freeze told here goes there, and back; sessions are merged, where they are later.
func TestImport(t *testing.T) {
	groups := scattered(15)
	for _, r := range list(whole[0], low[0], from(20000, 50000), from(span-1, span)) {
		name := fmt.Sprint("an import of ", r)
		a := holding(t, whole, []asked{{1, 5, api.Reply{Seq: 1}}, {2, 5, api.Reply{Seq: 2}}, {3, 5, api.Reply{Seq: 3}}}, groups)
		b := holding(t, none, nil, nil)
		did(t, b, api.Cmd{Kind: api.CmRelease, Client: 1, Num: 4})
		did(t, b, api.Cmd{Kind: api.CmRelease, Client: 2, Num: 5})
		did(t, b, api.Cmd{Kind: api.CmRelease, Client: 3, Num: 6})
		told := did(t, a, api.Cmd{Kind: api.CmFreeze, Client: 4, Num: 1, Time: 40, Range: r})
		was := pictureOf(b)
		c := api.Cmd{Kind: api.CmImport, Client: 4, Num: 2, Time: 30, Range: r, Data: told.Data}
		wantDone(t, name, do(t, b, c), api.Done{Slot: 3, Time: 30, Cmd: c, Reply: api.Reply{About: list(r)}, Fresh: true})
		want := was.behind(30).noting(asked{1, 5, api.Reply{Seq: 1}}).noting(asked{4, 2, api.Reply{About: list(r)}})
		want.served, want.groups = list(r), inside(groups, r)
		wantPicture(t, name, b, want)
		wantDone(t, name+", once more", do(t, b, c), api.Done{Slot: 4, Time: 30, Cmd: c, Reply: api.Reply{About: list(r)}})

		back := did(t, b, api.Cmd{Kind: api.CmFreeze, Client: 4, Num: 3, Range: r})
		did(t, a, api.Cmd{Kind: api.CmImport, Client: 4, Num: 4, Range: r, Data: back.Data})
		if p := pictureOf(a); !slices.Equal(p.served, whole) || !slices.EqualFunc(p.groups, groups, sameGroup) {
			t.Errorf("%s and back: it has %s", name, brief(p))
		}
	}
}

// P14.2: an import takes what comes by itself, too: sessions alone, groups alone, and neither.
func TestImportOfParts(t *testing.T) {
	groups := inside(scattered(9), high[0])
	for _, c := range []struct {
		sessions []asked
		groups   []entry
	}{{nil, nil}, {clients(3, 7), nil}, {nil, groups}, {clients(3, 7), groups}, {clients(maxClients, 7), groups[:1]}} {
		s := holding(t, low, nil, nil)
		cmd := api.Cmd{Kind: api.CmImport, Range: high[0], Data: packed(c.sessions, c.groups)}
		wantDone(t, "an import", do(t, s, cmd), api.Done{Slot: 1, Cmd: cmd, Reply: api.Reply{About: high}, Fresh: true})
		wantPicture(t, "an import", s, picture{2, 0, whole, c.groups, c.sessions})
	}
}

// P14.2: an import whose own client and number come with its sessions is done; what came stays.
func TestImportOfItsOwnNumber(t *testing.T) {
	s := newShard(t, withDead(1), nil)
	c := api.Cmd{Kind: api.CmImport, Client: 7, Num: 4, Range: low[0], Data: packed([]asked{{7, 4, api.Reply{N: 9}}}, nil)}
	wantDone(t, "an import", do(t, s, c), api.Done{Slot: 0, Cmd: c, Reply: api.Reply{About: low}, Fresh: true})
	wantPicture(t, "an import", s, picture{1, 0, low, nil, []asked{{7, 4, api.Reply{N: 9}}}})
	wantDone(t, "once more", do(t, s, c), api.Done{Slot: 1, Cmd: c, Reply: api.Reply{N: 9}})
}

// badData has Data that no import takes into the upper places of a shard that has some clients.
func badData(known int) map[string][]string {
	group := inside(scattered(9), high[0])[0]
	right, session := groupText(group), askedText(asked{70, 5, api.Reply{Seq: 6}})
	below := groupText(inside(scattered(9), low[0])[0])
	bad := map[string][]string{
		"no Data": nil, "empty Data": {}, "an empty first text": {""}, "an empty first text, and groups": {"", right},
		"a first text with a byte behind": {"\x00\x00"}, "two numbers": {"\x00\x01", right}, "a cut number": {"\x80"}, "a longer number than it needs": {"\x80\x00"},
		"a great number": {num(maxNum)}, "too great a number": {num(maxNum + 1)}, "ten bytes": {strings.Repeat("\x80", 9) + "\x01"}, "a number above nothing": {"\x01"},
		"a number above what follows": {"\x02", session}, "far above": {num(300), session, right}, "sessions alone": {session}, "groups alone": {right},
		"a group as a session": {"\x01", right}, "a session as a group": {"\x00", session}, "a group too many as a session": {"\x02", session, right},
		"an empty session": {"\x01", ""}, "an empty group": {"\x00", ""}, "a cut session": {"\x01", session[:len(session)-1], right}, "a cut group": {"\x01", session, right[:len(right)-1]},
		"a session with a byte behind": {"\x01", session + "\x00", right}, "a group with a byte behind": {"\x01", session, right + "\x00"},
		"a session of client 0":   {"\x01", askedText(asked{0, 1, api.Reply{}}), right},
		"a session of number 0":   {"\x01", askedText(asked{1, 0, api.Reply{}}), right},
		"a session beyond":        {"\x01", askedText(asked{maxTime + 1, 1, api.Reply{}}), right},
		"a wrong session at last": {"\x02", session, "?", right}, "a wrong group at last": {"\x01", session, right, "?"},
		"a group elsewhere": {"\x01", session, below}, "a group elsewhere at last": {"\x01", session, right, below}, "a group twice": {"\x01", session, right, right},
		"a group of no queue": {"\x01", session, groupText(entry{3, group.name, group.g})},
	}
	sessions := []asked{{1, 999, api.Reply{}}}
	for i := range maxClients + 1 - known {
		sessions = append(sessions, asked{1000 + i, 1, api.Reply{}})
	}
	bad["too many clients"] = packed(sessions, []entry{group})
	return bad
}

// P14.2: an import that is refused in any part of it changes nothing at all.
func TestImportRefuses(t *testing.T) {
	for _, known := range []int{0, 5, maxClients - 1} {
		for name, data := range badData(known) {
			s := holding(t, low, clients(known, 9), inside(scattered(9), low[0]))
			was := pictureOf(s)
			for i, who := range []struct{ client, num int }{{0, 0}, {3, 10}} {
				c := api.Cmd{Kind: api.CmImport, Client: who.client, Num: who.num, Time: 70, Range: high[0], Data: data}
				wantDone(t, name, do(t, s, c), api.Done{Slot: 1 + i, Time: 70, Cmd: c, Reply: api.Reply{Err: api.ErrArg}, Fresh: true})
			}
			wantPicture(t, name, s, was.behind(70).behind(70).noting(asked{3, 10, api.Reply{Err: api.ErrArg}}))
			// The same place is free for what is right.
			did(t, s, api.Cmd{Kind: api.CmImport, Range: high[0], Data: packed([]asked{{3, 11, api.Reply{}}}, inside(scattered(9), high[0]))})
		}
	}
}

// P14.2: ranges that may not be, or meet what is served.
func TestImportRefusesRanges(t *testing.T) {
	for _, r := range list(from(0, 0), whole[0], low[0], from(span/2-1, span), from(0, 1), from(7, 8)) {
		s := holding(t, low, clients(2, 9), inside(scattered(9), low[0]))
		was := pictureOf(s)
		c := api.Cmd{Kind: api.CmImport, Client: 2, Num: 10, Time: 70, Range: r, Data: packed([]asked{{50, 1, api.Reply{}}, {1, 10, api.Reply{}}}, nil)}
		wantDone(t, fmt.Sprint("an import of ", r), do(t, s, c), api.Done{Slot: 1, Time: 70, Cmd: c, Reply: api.Reply{Err: api.ErrArg}, Fresh: true})
		wantPicture(t, fmt.Sprint("an import of ", r), s, was.behind(70).noting(asked{2, 10, api.Reply{Err: api.ErrArg}}))
	}
}

// pack packs lists, and checks that these stay, and that what is told is new memory.
func pack(t *testing.T, sessions, groups []string) []string {
	t.Helper()
	a, b := spare(sessions, "stray"), spare(groups, "stray")
	first := shard.Pack(a, b)
	if slices.Contains(first[:cap(first)], "stray") {
		t.Errorf("what lay behind a list is handed out: %q", first)
	}
	spoil(first, "spoiled")
	l := shard.Pack(a, b)
	if !isSpare(a, sessions, "stray") || !isSpare(b, groups, "stray") {
		t.Errorf("Pack has changed what was handed in: %q, %q", a, b)
	}
	spoil(a, "spoiled")
	spoil(b, "spoiled")
	return l
}

// unpack parts a list, likewise.
func unpack(t *testing.T, data []string) (sessions, groups []string, e api.Errno) {
	t.Helper()
	handed := spare(data, "stray")
	a, b, _ := shard.Unpack(handed)
	if slices.Contains(a[:cap(a)], "stray") || slices.Contains(b[:cap(b)], "stray") {
		t.Errorf("what lay behind a list is handed out: %q, %q", a, b)
	}
	spoil(a, "spoiled")
	if slices.Contains(b, "spoiled") {
		t.Errorf("the sessions and the groups share memory: %q", b)
	}
	spoil(b, "spoiled")
	sessions, groups, e = shard.Unpack(handed)
	if !isSpare(handed, data, "stray") {
		t.Errorf("Unpack has changed what was handed in: %q", handed)
	}
	spoil(handed, "spoiled")
	return sessions, groups, e
}

// P14.4: none, sessions alone, groups alone, and both; there and back.
func TestPack(t *testing.T) {
	many := func(n int, kind string) []string {
		var l []string
		for i := range n {
			l = append(l, fmt.Sprint(kind, i))
		}
		return l
	}
	for _, c := range []struct{ sessions, groups int }{{0, 0}, {1, 0}, {0, 1}, {1, 1}, {3, 2}, {2, 3}, {64, 0}, {127, 5}, {128, 5}, {300, 1000}, {20000, 1}} {
		sessions, groups := many(c.sessions, "s"), many(c.groups, "g")
		l := pack(t, sessions, groups)
		wantTexts(t, fmt.Sprint("Pack of ", c), l, slices.Concat([]string{num(c.sessions)}, sessions, groups))
		a, b, e := unpack(t, l)
		wantError(t, fmt.Sprint("Unpack of ", c), e, api.OK)
		wantTexts(t, fmt.Sprint("the sessions of ", c), a, sessions)
		wantTexts(t, fmt.Sprint("the groups of ", c), b, groups)
	}
	wantTexts(t, "Pack of empty texts", pack(t, []string{"", ""}, []string{""}), []string{"\x02", "", "", ""})
}

// P14.4: how many sessions there are, from none to all that follow.
func TestUnpack(t *testing.T) {
	rest := []string{"a", "", "\x01", "d"}
	for n := range 5 {
		a, b, e := unpack(t, append([]string{num(n)}, rest...))
		wantError(t, fmt.Sprint(n, " sessions"), e, api.OK)
		wantTexts(t, fmt.Sprint(n, " sessions"), a, rest[:n])
		wantTexts(t, fmt.Sprint(n, " sessions"), b, rest[n:])
	}
}

// P14.4
func TestUnpackRefuses(t *testing.T) {
	for _, data := range [][]string{
		nil, {}, {""}, {"", ""}, {"a"}, {"\x01"}, {"\x02", "a"}, {"\x00\x00"}, {"\x01\x00", "a"}, {"\x00a"}, {"\x80"}, {"\x80", "a"}, {"\x80\x00"}, {"\x81\x00", "a"},
		{"\xff"}, {num(127), "a"}, {num(128), "a"}, {num(maxNum), "a"}, {num(maxNum + 1), "a"}, {strings.Repeat("\xff", 9), "a"}, {strings.Repeat("\x80", 9) + "\x01", "a"},
		{strings.Repeat("\x81", 5000)}, {strings.Repeat("\x00", 5000)}, append([]string{num(201)}, make([]string, 200)...),
	} {
		if a, b, e := unpack(t, data); len(a) > 0 || len(b) > 0 || e != api.ErrForm {
			t.Errorf("Unpack of %s: %q, %q, error %d", brief(data), a, b, int(e))
		}
	}
}
