package session_test

import (
	"fmt"
	"math"
	"slices"
	"strings"
	"testing"

	"raceway/api"
	"raceway/session"
)

// P13.3: texts, byte by byte.
func TestTexts(t *testing.T) {
	s := holding(t, entry{300, 5, api.Reply{Seq: 3}}, entry{1, 2, api.Reply{Data: []string{"x"}}}, entry{7, maxTime, api.Reply{Err: 16}})
	one := "\x01\x02\x00\x00\x00\x00\x01\x01x\x00"
	seven := "\x07\x80\x80\x80\x80\x80\x20\x10\x00\x00\x00\x00\x00"
	threeHundred := "\xac\x02\x05\x00\x03\x00\x00\x00\x00"
	wantTexts(t, "Dump", s.Dump(), seven, threeHundred)
	wantTexts(t, "All", s.All(), one, seven, threeHundred)
}

// mixed has a client of each kind of reply, with Data, without, and without a text, rising.
func mixed() (all, told, dumped []entry) {
	for i, r := range slices.Concat(textless()[:3], replies(), textless()[3:], withData(), replies()) {
		all = append(all, entry{3*i + 100, i + 1, r})
		if slices.ContainsFunc(textless(), func(x api.Reply) bool { return sameReply(x, r) }) {
			continue
		}
		told = append(told, all[i])
		if len(r.Data) == 0 {
			dumped = append(dumped, all[i])
		}
	}
	return all, told, dumped
}

// P13.3
func TestDumpAndAll(t *testing.T) {
	all, told, dumped := mixed()
	backward := slices.Clone(all)
	slices.Reverse(backward)
	for _, s := range []*session.Table{holding(t, all...), holding(t, backward...), holding(t, all...).Copy()} {
		for range 3 {
			wantTexts(t, "Dump", s.Dump(), textsOf(dumped)...)
			wantTexts(t, "All", s.All(), textsOf(told)...)
		}
		spoil(s.Dump(), "spoiled")
		spoil(s.All(), "spoiled")
		wantState(t, "behind that", s, all...)
	}
	for _, r := range textless() {
		s := holding(t, entry{1, 1, r})
		wantTexts(t, "Dump", s.Dump())
		wantTexts(t, "All", s.All())
		r.Data = []string{"d"}
		s = holding(t, entry{1, 1, r})
		wantTexts(t, "Dump of Data that has no text", s.Dump())
		wantTexts(t, "All of Data that has no text", s.All())
	}
	for _, r := range withData() {
		s := holding(t, entry{1, 1, r})
		wantTexts(t, "Dump of Data", s.Dump())
		wantTexts(t, "All of Data", s.All(), textOf(entry{1, 1, r}))
		note(t, s, entry{1, 2, api.Reply{}})
		wantTexts(t, "Dump, when the Data is gone", s.Dump(), textOf(entry{1, 2, api.Reply{}}))
	}
}

// P13.3, P13.4: into a table without clients.
func TestMergeIntoNone(t *testing.T) {
	all, told, dumped := mixed()
	s := holding(t, all...)
	for _, c := range []struct {
		name  string
		texts []string
		want  []entry
	}{{"Dump", s.Dump(), dumped}, {"All", s.All(), told}} {
		u := session.New()
		wantError(t, c.name, merge(t, u, c.texts), api.OK)
		wantState(t, c.name, u, c.want...)
		wantError(t, c.name+" once more", merge(t, u, c.texts), api.OK)
		wantState(t, c.name+" once more", u, c.want...)
		wantTexts(t, c.name+" of what was merged", u.All(), c.texts...)
		for _, x := range c.want {
			wantLook(t, u, x.client, x.num, &x.reply, api.OK)
		}
	}
	wantState(t, "the first table", s, all...)
}

// P13.3, P13.4: what is known less, the same and more.
func TestMergeIntoSome(t *testing.T) {
	from := []entry{
		{1, 5, api.Reply{Seq: 1}}, {2, 5, api.Reply{Seq: 2}}, {3, 5, api.Reply{Seq: 3}}, {4, 1, api.Reply{Seq: 4}}, {5, maxTime, api.Reply{Seq: 5}},
	}
	into := []entry{
		{1, 4, api.Reply{N: 1}}, {2, 5, api.Reply{N: 2}}, {3, 6, api.Reply{N: 3, Data: []string{"d"}}}, {5, maxTime - 1, textless()[0]}, {6, 1, api.Reply{N: 6}},
	}
	want := []entry{from[0], into[1], into[2], from[3], from[4], into[4]}
	s, u := holding(t, from...), holding(t, into...)
	wantError(t, "Merge", merge(t, u, s.Dump()), api.OK)
	wantState(t, "Merge", u, want...)
	backward := textsOf(from)
	slices.Reverse(backward)
	u = holding(t, into...)
	wantError(t, "falling", merge(t, u, backward), api.OK)
	wantState(t, "falling", u, want...)
	wantState(t, "where it came from", s, from...)
}

// P13.3: Data is merged too, if it is told.
func TestMergeOfData(t *testing.T) {
	for _, r := range withData() {
		u := holding(t, entry{1, 4, api.Reply{Seq: 7}})
		wantError(t, "Merge", merge(t, u, textsOf([]entry{{1, 5, r}, {2, 1, r}})), api.OK)
		wantState(t, "Merge", u, entry{1, 5, r}, entry{2, 1, r})
	}
}

// P13.3
func TestMergeIntoItself(t *testing.T) {
	all, _, _ := mixed()
	for _, l := range [][]entry{nil, all, many(1, maxClients+1, 9)} {
		s := holding(t, l...)
		wantError(t, "Dump", merge(t, s, s.Dump()), api.OK)
		wantState(t, "Dump", s, l...)
		wantError(t, "All", merge(t, s, s.All()), api.OK)
		wantState(t, "All", s, l...)
	}
}

// P13.3
func TestMergeOfNothing(t *testing.T) {
	for _, l := range [][]entry{nil, many(1, 3, 9), many(1, maxClients+1, 9)} {
		s := holding(t, l...)
		wantError(t, "nil", s.Merge(nil), api.OK)
		wantError(t, "empty", s.Merge([]string{}), api.OK)
		wantError(t, "empty, with memory", merge(t, s, nil), api.OK)
		wantState(t, "behind that", s, l...)
	}
}

// P13.3: one client twice: one behind the other.
func TestMergeOfOneClientTwice(t *testing.T) {
	five, six, other := entry{1, 5, api.Reply{Seq: 5}}, entry{1, 6, api.Reply{Seq: 6}}, entry{1, 6, api.Reply{Seq: 7}}
	for _, c := range []struct {
		name string
		l    []entry
		want entry
	}{
		{"rising", []entry{five, six}, six}, {"falling", []entry{six, five}, six}, {"the same number", []entry{six, other}, six}, {"the other first", []entry{other, six}, other},
		{"the same text", []entry{five, five}, five}, {"three times", []entry{five, other, six, five}, other},
	} {
		s := session.New()
		wantError(t, c.name, merge(t, s, textsOf(c.l)), api.OK)
		wantState(t, c.name, s, c.want)
		s = holding(t, entry{1, 4, api.Reply{}}, entry{2, 1, api.Reply{}})
		wantError(t, c.name, merge(t, s, textsOf(c.l)), api.OK)
		wantState(t, c.name, s, c.want, entry{2, 1, api.Reply{}})
		s = holding(t, entry{1, 7, api.Reply{}})
		wantError(t, c.name, merge(t, s, textsOf(c.l)), api.OK)
		wantState(t, c.name, s, entry{1, 7, api.Reply{}})
	}
	// A client counts once, however often it is told.
	l := slices.Concat(many(1, maxClients+1, 1), many(1, maxClients+1, 2))
	s := session.New()
	wantError(t, "64 clients twice", merge(t, s, textsOf(l)), api.OK)
	wantState(t, "64 clients twice", s, l[maxClients:]...)
}

// wrongTexts has texts that Dump and All never tell.
func wrongTexts() map[string]string {
	wrong := map[string]string{
		"no bytes": "", "a sign": "?", "many signs": strings.Repeat("?", 50), "ten bytes of a number": strings.Repeat("\x80", 9) + "\x01",
		"a longer client than it needs": "\x81\x00" + num(1) + replyText(api.Reply{}), "a longer number than it needs": num(1) + "\x81\x00" + replyText(api.Reply{}),
		"a reply alone": replyText(api.Reply{Seq: 1, N: 1}), "no number": num(1) + replyText(api.Reply{Err: 1}), "zeros": strings.Repeat("\x00", 8),
		"a reply's list of strange ranges": textOf(entry{1, 1, api.Reply{About: []api.Range{{Lo: 3, Hi: 3}}}}),
		"an error above 255":               textOf(entry{1, 1, api.Reply{Err: 256}}),
		"a Seq above 2^40":                 textOf(entry{1, 1, api.Reply{Seq: maxTime + 1}}),
		"a body of 129 bytes":              textOf(entry{1, 1, api.Reply{Got: []api.Got{{Body: strings.Repeat("b", 129)}}}}),
		"Data of 4097 bytes":               textOf(entry{1, 1, api.Reply{Data: []string{strings.Repeat("d", 4097)}}}),
		"1025 of Data":                     textOf(entry{1, 1, api.Reply{Data: make([]string, 1025)}}),
	}
	for i, r := range replies() {
		x := textOf(entry{300, 200, r})
		for n := range len(x) {
			wrong[fmt.Sprintf("reply %d cut to %d bytes", i, n)] = x[:n]
		}
		for _, more := range []string{"\x00", "\x01", "\xff", x} {
			wrong[fmt.Sprintf("reply %d with %q behind", i, more)] = x + more
		}
		for _, n := range []int{0, maxTime + 1, maxTime + 2, maxNum, maxNum + 1, math.MaxInt} {
			wrong[fmt.Sprintf("reply %d of client %d", i, n)] = textOf(entry{n, 1, r})
			wrong[fmt.Sprintf("reply %d of number %d", i, n)] = textOf(entry{1, n, r})
			wrong[fmt.Sprintf("reply %d of client and number %d", i, n)] = textOf(entry{n, n, r})
		}
	}
	return wrong
}

// P13.3: nothing is changed, wherever the wrong text stands.
func TestMergeOfWrongTexts(t *testing.T) {
	right := textsOf([]entry{{1, 9, api.Reply{Seq: 1}}, {2, 9, api.Reply{Data: []string{"d"}}}, {3, 9, api.Reply{N: 3}}})
	s, none, full := holding(t, entry{1, 4, api.Reply{Seq: 4}}, entry{3, 4, api.Reply{}}), session.New(), holding(t, many(1, maxClients+1, 3)...)
	for name, text := range wrongTexts() {
		for _, x := range []*session.Table{s, none, full} {
			refusesMerge(t, name, x, []string{text}, api.ErrArg)
			refusesMerge(t, name+", last", x, append(slices.Clone(right), text), api.ErrArg)
			refusesMerge(t, name+", first", x, append([]string{text}, right...), api.ErrArg)
			refusesMerge(t, name+", between", x, slices.Insert(slices.Clone(right), 1, text), api.ErrArg)
		}
	}
	wantError(t, "the right ones", merge(t, s, right), api.OK)
	wantState(t, "the right ones", s, entry{1, 9, api.Reply{Seq: 1}}, entry{2, 9, api.Reply{Data: []string{"d"}}}, entry{3, 9, api.Reply{N: 3}})
}

// P13.3: the greatest numbers, and the greatest Data.
func TestMergeAtTheLimits(t *testing.T) {
	long := strings.Repeat("d", 4096)
	l := []entry{
		{1, 1, api.Reply{Err: 255, Seq: maxTime, N: maxTime}},
		{2, maxTime, api.Reply{Data: slices.Repeat([]string{long}, 3)}},
		{maxTime, maxTime, api.Reply{Data: make([]string, 1024), Got: make([]api.Got, 1024)}},
	}
	s := session.New()
	wantError(t, "Merge", merge(t, s, textsOf(l)), api.OK)
	wantState(t, "Merge", s, l...)
	wantTexts(t, "All", s.All(), textsOf(l)...)
}

// P13.3: there would be 65, whatever the list's order is: nothing is changed.
func TestMergeOfTooMany(t *testing.T) {
	for _, known := range []int{0, 1, 30, maxClients - 1, maxClients} {
		had := many(1, known+1, 5)
		for _, again := range []int{0, 1, known / 2, known} {
			if again > known {
				continue
			}
			later := many(1, again+1, 9) // of clients that are known already
			fits := slices.Concat(later, many(100, 100+maxClients-known, 1))
			tooMany := append(slices.Clone(fits), entry{200, 1, api.Reply{}})
			name := fmt.Sprintf("%d known, %d of them told", known, again)
			for range 2 {
				s := holding(t, had...)
				refusesMerge(t, name, s, textsOf(tooMany), api.ErrFull)
				refusesMerge(t, name+", one a second time", s, textsOf(append(tooMany, fits...)), api.ErrFull)
				refusesMerge(t, name+", and a wrong text", s, append(textsOf(tooMany), "?"), api.ErrArg)
				wantError(t, name, merge(t, s, textsOf(fits)), api.OK)
				want := slices.Concat(had, fits[again:])
				copy(want, later)
				slices.SortFunc(want, func(a, b entry) int { return a.client - b.client })
				wantState(t, name, s, want...)
				slices.Reverse(fits[again:])
				slices.Reverse(tooMany)
			}
		}
	}
}

// P13.3: what a merge has refused leaves the table as usable as it was.
func TestAfterRefusedMerges(t *testing.T) {
	s := holding(t, many(1, 4, 5)...)
	refusesMerge(t, "too many", s, textsOf(many(2, 100, 7)), api.ErrFull)
	wantTexts(t, "Dump", s.Dump(), textsOf(many(1, 4, 5))...)
	wantError(t, "Note", note(t, s, entry{2, 6, api.Reply{N: 1}}), api.OK)
	wantError(t, "61 more", merge(t, s, textsOf(many(4, maxClients+1, 1))), api.OK)
	refusesNote(t, s, entry{maxClients + 1, 1, api.Reply{}}, api.ErrFull)
}

// P13.3: what was merged is the table's own.
func TestMemoryOfMerges(t *testing.T) {
	r := withData()[2]
	s, u := holding(t, entry{1, 1, r}), session.New()
	wantError(t, "Merge", merge(t, u, s.All()), api.OK)
	told, _, _ := u.Look(1, 1)
	spoilReply(told)
	wantState(t, "what was told is changed", u, entry{1, 1, r})
	wantState(t, "what was told is changed", s, entry{1, 1, r})
}
