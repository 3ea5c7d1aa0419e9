package shard_test

import (
	"fmt"
	"slices"
	"strings"
	"testing"

	"raceway/api"
	"raceway/shard"
)

// headOf is the document's words of a dump's first text.
func headOf(p picture) string {
	s := nums(p.slots, p.now, len(p.served))
	for _, r := range p.served {
		s += nums(r.Lo, r.Hi)
	}
	return s + num(len(p.sessions))
}

// dumped is the document's words of a dump.
func dumped(p picture) []string {
	l := append([]string{headOf(p)}, textsOf(askedText, p.sessions)...)
	for _, r := range p.served {
		l = append(l, textsOf(groupText, inside(p.groups, r))...)
	}
	return l
}

// P14.5: a dump, byte by byte.
func TestDumpBytes(t *testing.T) {
	s := newShard(t, []api.Queue{plainConf()}, list(from(300, span), from(0, 127)))
	wantTexts(t, "at first", dump(t, s), []string{"\x00\x00\x02\x00\x7f\xac\x02\x80\x80\x04\x00"})
	did(t, s, api.Cmd{Kind: api.CmSend, Client: 200, Num: 2, Time: 5, Group: "a", Body: "b", Token: "t"})
	did(t, s, api.Cmd{Kind: api.CmFreeze, Client: 7, Num: 3, Time: 130, Range: from(0, 127)})
	wantTexts(t, "behind a send and a freeze", dump(t, s), []string{
		"\x02\x82\x01\x01\xac\x02\x80\x80\x04\x02",
		"\x07\x03\x00\x00\x00\x00\x02\x01\x01\x09\xc8\x01\x02\x00\x01\x00\x00\x00\x00\x01\x00\x7f",
		"\xc8\x01\x02\x00\x01\x00\x00\x00\x00",
		"\x00\x01a\x0f\x02\x01\x01\x05\x00\x00\x00\x01b\x01\x01t\x01\x05\x00",
	})
	none := newShard(t, []api.Queue{plainConf()}, nil)
	wantTexts(t, "of no ranges", dump(t, none), []string{"\x00\x00\x00\x00"})
}

// shards has shards of no ranges, of one and of several, with sessions and without, of replies with Data and without.
func shards(t *testing.T) map[string]*shard.Shard {
	t.Helper()
	several := list(from(50000, 60000), from(10, 9000), from(20000, 30000), from(30000, 31000))
	m := map[string]*shard.Shard{
		"nothing": newShard(t, withDead(2), nil), "one range": newShard(t, withDead(2), whole), "several ranges": newShard(t, withDead(2), several),
		"sessions alone":            holding(t, nil, nil, nil),
		"one range with groups":     holding(t, whole, nil, scattered(12)),
		"several ranges and groups": holding(t, several, nil, inside(scattered(30), several...)),
		"all of that":               holding(t, several, clients(20, 300), inside(scattered(30), several...)),
		"full of clients":           holding(t, low, clients(maxClients, 7), nil),
		"a busy one":                busy(t),
	}
	for client := range 5 {
		did(t, m["sessions alone"], api.Cmd{Kind: api.CmNothing, Client: client + 1, Num: 200, Time: client})
	}
	did(t, m["all of that"], api.Cmd{Kind: api.CmFreeze, Client: 15, Num: 301, Time: 77, Range: from(10, 5000)})
	did(t, m["all of that"], api.Cmd{Kind: api.CmReceive, Client: 16, Num: 301, Time: 78, Max: 5, Secs: 20, Attempt: "p"})
	did(t, m["one range"], api.Cmd{Kind: api.CmNothing, Time: maxTime})
	if p := pictureOf(m["all of that"]); len(p.served) != 3 || len(p.groups) < 10 || len(p.sessions) != 20 {
		t.Fatalf("it has %s", brief(p))
	}
	return m
}

// further has values that each tell something of what a shard has.
func further(t *testing.T) [][]byte {
	t.Helper()
	l := [][]byte{nil, {1, 2}}
	for i, name := range namesIn(whole, 6) {
		l = append(l,
			value(api.Cmd{Kind: api.CmSend, Client: i + 1, Num: 400, Time: 90 + i, Group: name, Body: "more", Token: "t"}),
			value(api.Cmd{Kind: api.CmReceive, Client: 40 + i, Num: i + 1, Time: 92, Queue: i % 3, Max: 3, Secs: 4, Attempt: "p"}),
			value(api.Cmd{Kind: api.CmDelete, Time: 91, Receipt: api.Receipt{Queue: i % 3, Group: name, Seq: 7 + i%3, Count: 1}}),
			value(api.Cmd{Kind: api.CmSend, Client: i + 1, Num: 300, Group: name, Body: "old"}),
			value(api.Cmd{Kind: api.CmRedrive, Time: 95, Queue: 1, Group: name, Max: 2}))
	}
	for client := range 25 {
		l = append(l, value(api.Cmd{Kind: api.CmNothing, Client: client, Num: 301}), value(api.Cmd{Kind: api.CmNothing, Client: client, Num: 7}))
	}
	return append(l,
		value(api.Cmd{Kind: api.CmPurge, Client: 3, Num: 401, Time: 200, Queue: 2}),
		value(api.Cmd{Kind: api.CmFreeze, Client: 4, Num: 401, Time: 200, Range: from(20000, 30500)}),
		value(api.Cmd{Kind: api.CmImport, Client: 5, Num: 401, Time: 200, Range: from(61000, 62000), Data: packed(clients(3, 500), nil)}),
		value(api.Cmd{Kind: api.CmFreeze, Client: 6, Num: 401, Range: whole[0]}))
}

// P14.5, P14.6: a dump tells what there is; what is loaded has that, and goes on as what was dumped.
func TestDumpAndLoad(t *testing.T) {
	for name, s := range shards(t) {
		p := pictureOf(s)
		l := dump(t, s)
		wantTexts(t, name, l, dumped(p))
		k, e := load(t, withDead(2), l)
		wantError(t, name, e, api.OK)
		wantPicture(t, name+", loaded", k, p)
		wantTexts(t, name+", dumped once more", dump(t, k), l)
		for i, v := range further(t) {
			wantDone(t, fmt.Sprintf("%s, value %d", name, i), apply(t, k, v), apply(t, s, v))
			wantPicture(t, fmt.Sprintf("%s, value %d", name, i), k, pictureOf(s))
		}
		wantTexts(t, name+", at last", dump(t, k), dump(t, s))
	}
}

// P14.5: what is loaded is nobody else's.
func TestLoadsAreApart(t *testing.T) {
	l := dump(t, busy(t))
	a, _ := load(t, withDead(2), l)
	b, _ := load(t, withDead(2), l)
	was := pictureOf(b)
	for _, v := range further(t) {
		a.Apply(v)
	}
	wantPicture(t, "values on another one", b, was)
	confs := withDead(2)
	c, e := shard.Load(confs, l)
	wantError(t, "Load", e, api.OK)
	spoil(confs, api.Queue{})
	for i, v := range further(t) {
		wantDone(t, fmt.Sprint("with the confs changed, value ", i), c.Apply(v), b.Apply(v))
	}
}

// wantNoLoad checks that a list is none that a shard dumped.
func wantNoLoad(t *testing.T, name string, data []string) {
	t.Helper()
	if s, e := load(t, withDead(2), data); s != nil || e != api.ErrForm {
		t.Errorf("%s: Load of %s: error %d", name, brief(data), int(e))
	}
}

// wantLoad checks that a list is one.
func wantLoad(t *testing.T, name string, data []string, want picture) {
	t.Helper()
	s, e := load(t, withDead(2), data)
	wantError(t, name, e, api.OK)
	wantPicture(t, name, s, want)
}

// P14.5: without a text, without a part of a text, and without a text at the end: less groups may be, less sessions not.
func TestLoadOfCutLists(t *testing.T) {
	wantNoLoad(t, "nil", nil)
	wantNoLoad(t, "no texts", []string{})
	for name, s := range shards(t) {
		l, p := dump(t, s), pictureOf(s)
		for i, text := range l {
			for n := range len(text) {
				wantNoLoad(t, fmt.Sprintf("%s, text %d cut to %d", name, i, n), slices.Concat(l[:i], []string{text[:n]}, l[i+1:]))
			}
			rest := l[:i]
			if i < 1+len(p.sessions) {
				wantNoLoad(t, fmt.Sprintf("%s, without texts from %d on", name, i), rest)
				continue
			}
			fewer := p
			fewer.groups = slices.DeleteFunc(slices.Clone(p.groups), func(x entry) bool { return !slices.Contains(rest, groupText(x)) })
			wantLoad(t, fmt.Sprintf("%s, without texts from %d on", name, i), rest, fewer)
		}
	}
}

// P14.5: with a byte behind a text, and with a text behind the last one.
func TestLoadOfListsWithMore(t *testing.T) {
	for name, s := range shards(t) {
		l, p := dump(t, s), pictureOf(s)
		for i, text := range l {
			for _, more := range []string{"\x00", "\x01", "\x80", "\x00\x00", "\xff\xff"} {
				wantNoLoad(t, fmt.Sprintf("%s, text %d with %q behind", name, i, more), slices.Concat(l[:i], []string{text + more}, l[i+1:]))
			}
		}
		more := []string{"", "\x00", "?", headOf(p), askedText(asked{50, 900, api.Reply{}}), groupText(entry{9, "a", of()}), groupText(entry{0, "a", of()}) + "\x00"}
		if len(l) > 1+len(p.sessions) {
			more = append(more, l[len(l)-1], l[1+len(p.sessions)])
		}
		for _, text := range more {
			wantNoLoad(t, fmt.Sprintf("%s, with %q at the end", name, text), append(slices.Clone(l), text))
			wantNoLoad(t, fmt.Sprintf("%s, with %q in front", name, text), append([]string{text}, l...))
		}
	}
}

// P14.5: 2^40 is the greatest number.
func TestLoadOfGreatNumbers(t *testing.T) {
	wantLoad(t, "2^40", []string{nums(maxTime, maxTime, 0, 0)}, picture{slots: maxTime, now: maxTime})
	wantLoad(t, "below it", []string{nums(maxTime-1, 0, 1, 0, 1, 0)}, picture{slots: maxTime - 1, served: list(from(0, 1))})
	for _, n := range []int{maxTime + 1, maxTime + 2, maxNum, maxNum + 1} {
		for i := range 6 {
			l := []int{3, 4, 1, 10, 20, 0}
			l[i] = n
			wantNoLoad(t, fmt.Sprintf("number %d is %d", i, n), []string{nums(l...)})
			l = []int{3, 4, 0, 0}
			l[i%4] = n
			wantNoLoad(t, fmt.Sprintf("number %d is %d", i, n), []string{nums(l...)})
		}
	}
	for i := range 4 {
		parts := []string{"\x03", "\x04", "\x00", "\x00"}
		parts[i] = "\x83\x00"
		wantNoLoad(t, fmt.Sprintf("number %d is longer than it needs", i), []string{strings.Join(parts, "")})
		parts[i] = strings.Repeat("\x80", 9) + "\x01"
		wantNoLoad(t, fmt.Sprintf("number %d has ten bytes", i), []string{strings.Join(parts, "")})
	}
}

// P14.5: more ranges than told, and fewer.
func TestLoadOfCounts(t *testing.T) {
	for _, n := range []int{0, 1, 3, 4, 127, 1000, maxTime, 1 << 39, maxTime / 2} {
		wantNoLoad(t, fmt.Sprint(n, " ranges, not two"), []string{nums(3, 4, n, 10, 20, 30, 40, 0)})
	}
	for _, head := range []string{"", nums(3), nums(3, 4), nums(3, 4, 0), nums(3, 4, 1), nums(3, 4, 1, 0), nums(3, 4, 1, 10, 20), nums(3, 4, 0, 0, 0), nums(3, 4, 0, 10, 20, 0), nums(3, 4, 1, 10, 20, 0, 0), nums(3, 4, 1, 10, 0)} {
		wantNoLoad(t, "a head that is none", []string{head})
	}
	wantLoad(t, "two ranges", []string{nums(3, 4, 2, 10, 20, 30, 40, 0)}, picture{slots: 3, now: 4, served: list(from(10, 20), from(30, 40))})
}

// P14.5: ranges that may not be, or meet; those that touch, or stand in another order, may be.
func TestLoadOfRanges(t *testing.T) {
	head := func(l ...api.Range) []string { return []string{headOf(picture{slots: 3, now: 4, served: l})} }
	for _, r := range wrongRanges {
		wantNoLoad(t, fmt.Sprint(r), head(r))
		wantNoLoad(t, fmt.Sprint(r, " behind"), head(from(50, 60), r))
		wantNoLoad(t, fmt.Sprint(r, " ahead"), head(r, from(50, 60)))
	}
	for _, l := range [][]api.Range{list(from(0, 10), from(9, 20)), list(from(5, 6), from(5, 6)), list(from(5, 6), whole[0]), list(from(10, 20), from(30, 40), from(0, 11)), list(from(0, 40), from(10, 20))} {
		wantNoLoad(t, fmt.Sprint(l), head(l...))
		slices.Reverse(l)
		wantNoLoad(t, fmt.Sprint(l), head(l...))
	}
	want := picture{slots: 3, now: 4, served: list(from(0, 20), from(30, 40))}
	wantLoad(t, "ranges that touch", head(from(0, 10), from(10, 20), from(30, 40)), want)
	wantLoad(t, "another order", head(from(30, 40), from(10, 20), from(0, 10)), want)
}

// P14.5: more sessions than told, or fewer; wrong ones; too many.
func TestLoadOfSessions(t *testing.T) {
	groups := scattered(6)
	p := picture{5, 6, whole, groups, clients(4, 200)}
	texts := dumped(p)
	wantLoad(t, "as told", texts, p)
	for n := range 20 {
		if n != 4 {
			wantNoLoad(t, fmt.Sprint(n, " sessions, not 4"), append([]string{nums(5, 6, 1, 0, span, n)}, texts[1:]...))
		}
	}
	for i := range 4 {
		wantNoLoad(t, fmt.Sprintf("without session %d", i), slices.Delete(slices.Clone(texts), 1+i, 2+i))
		wantNoLoad(t, fmt.Sprintf("session %d twice", i), slices.Insert(slices.Clone(texts), 1, texts[1+i]))
		for _, bad := range []asked{{0, 1, api.Reply{}}, {1, 0, api.Reply{}}, {maxTime + 1, 1, api.Reply{}}, {1, maxTime + 1, api.Reply{}}, {1, 1, api.Reply{Err: 256}}} {
			l := slices.Clone(texts)
			l[1+i] = askedText(bad)
			wantNoLoad(t, fmt.Sprintf("session %d is %s", i, brief(bad)), l)
		}
	}
	p.sessions = clients(maxClients, 9)
	wantLoad(t, "64 clients", dumped(p), p)
	p.sessions = clients(maxClients+1, 9)
	wantNoLoad(t, "65 clients", dumped(p))
	wantNoLoad(t, "a session alone", []string{nums(0, 0, 0, 2), askedText(asked{1, 1, api.Reply{}})})
}

// P14.5: groups of none of the ranges, of no queue, twice; in another order they may be.
func TestLoadOfGroups(t *testing.T) {
	served := list(from(0, 10000), from(20000, 30000), from(40000, 60000))
	all := scattered(40)
	p := picture{5, 6, served, inside(all, served...), clients(2, 3)}
	texts := dumped(p)
	wantLoad(t, "as they are", texts, p)
	for _, x := range outside(all, served...)[:6] {
		for _, at := range []int{3, 4, len(texts)} {
			wantNoLoad(t, fmt.Sprintf("%s at %d", x.name, at), slices.Insert(slices.Clone(texts), at, groupText(x)))
		}
	}
	for i, r := range served {
		fewer := p
		fewer.served = slices.Delete(slices.Clone(served), i, i+1)
		wantNoLoad(t, fmt.Sprint("without ", r), append([]string{headOf(fewer)}, texts[1:]...))
	}
	for _, x := range p.groups[:4] {
		for _, at := range []int{3, 4, len(texts)} {
			wantNoLoad(t, "twice", slices.Insert(slices.Clone(texts), at, groupText(x)))
			wantNoLoad(t, "another one of that name", slices.Insert(slices.Clone(texts), at, groupText(entry{x.queue, x.name, of()})))
			wantNoLoad(t, "of no queue", slices.Insert(slices.Clone(texts), at, groupText(entry{3, x.name, x.g})))
		}
	}
	wantNoLoad(t, "no ranges", append([]string{nums(5, 6, 0, 2)}, texts[1:]...))
	if s, e := load(t, withDead(2)[2:], texts); s != nil || e != api.ErrForm {
		t.Errorf("of fewer queues: error %d", int(e))
	}
	slices.Reverse(texts[3:])
	wantLoad(t, "in another order", texts, p)
}

// P14.5: replies of which wire tells an error have no text, and are not counted.
func TestDumpOfSessionsWithoutTexts(t *testing.T) {
	name := namesIn(low, 1)[0]
	s := holding(t, whole, clients(2, 5), []entry{{0, name, api.Group{Next: maxTime + 1}}})
	did(t, s, api.Cmd{Kind: api.CmSend, Client: 1, Num: 6, Time: 7, Group: name, Body: "b", Token: "t"})
	p := pictureOf(s)
	if len(p.sessions) != 2 || p.sessions[0].reply.Seq != maxTime+1 {
		t.Fatalf("it has %s", brief(p))
	}
	p.sessions = p.sessions[1:]
	wantTexts(t, "Dump", dump(t, s), dumped(p))
	wantLoad(t, "Dump", dump(t, s), p)
	if r := did(t, s, api.Cmd{Kind: api.CmFreeze, Range: whole[0]}); !slices.Equal(r.Data, packed(p.sessions, p.groups)) {
		t.Errorf("a freeze tells %s", brief(r))
	}
}

// P14.5: with any byte changed a list is refused, or is that of another shard, which is dumped and loaded as it is.
func TestLoadOfChangedBytes(t *testing.T) {
	l := dump(t, busy(t))
	loaded := 0
	for i, text := range l {
		for at := range len(text) {
			for _, bits := range []byte{0x01, 0x02, 0x10, 0x80, 0xff} {
				b := []byte(text)
				b[at] ^= bits
				data := slices.Clone(l)
				data[i] = string(b)
				s, e := load(t, withDead(2), data)
				if e != api.OK {
					wantError(t, fmt.Sprintf("text %d, byte %d", i, at), e, api.ErrForm)
					continue
				}
				loaded++
				wantLoad(t, fmt.Sprintf("text %d, byte %d", i, at), dump(t, s), pictureOf(s))
			}
		}
	}
	if loaded == 0 {
		t.Error("none of them is loaded")
	}
}

// P14.5: a group's text that no command has room for is dumped and loaded all the same.
func TestDumpOfLongTexts(t *testing.T) {
	s := holding(t, whole, nil, []entry{longGroup(t, namesIn(low, 1)[0], maxText)})
	did(t, s, api.Cmd{Kind: api.CmReceive, Time: 3, Max: 1, Secs: 5, Attempt: "p"})
	wantLoad(t, "a text of 4097 bytes", dump(t, s), pictureOf(s))
	did(t, s, api.Cmd{Kind: api.CmReceive, Time: 20, Max: 1, Secs: 5, Attempt: strings.Repeat("p", 32)})
	was := pictureOf(s)
	if l, e := s.Dump(); len(l) > 0 || e != api.ErrLong {
		t.Errorf("Dump: %d texts, error %d", len(l), int(e))
	}
	wantPicture(t, "a Dump that is refused", s, was)
}
