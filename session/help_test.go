package session_test

import (
	"fmt"
	"slices"
	"strconv"
	"testing"

	"raceway/api"
	"raceway/session"
)

// The document's limits, apart from the packages that are tested.
const (
	maxTime    = 1 << 40
	maxNum     = 1 << 62
	maxClients = 64
)

// entry is a client, the number of what it asked last, and the reply.
type entry struct {
	client, num int
	reply       api.Reply
}

func sameReply(a, b api.Reply) bool {
	return a.Err == b.Err && a.Seq == b.Seq && a.N == b.N && slices.Equal(a.Got, b.Got) && slices.Equal(a.Data, b.Data) && slices.Equal(a.About, b.About)
}

func sameEntry(a, b entry) bool {
	return a.client == b.client && a.num == b.num && sameReply(a.reply, b.reply)
}

// brief tells something in one line, whatever it has in it.
func brief(x any) string {
	s := strconv.QuoteToASCII(fmt.Sprintf("%+v", x))
	return s[:min(len(s), 1000)]
}

func receipt(queue int, group string, seq, count int) api.Receipt {
	return api.Receipt{Queue: queue, Group: group, Seq: seq, Count: count}
}

// replies has some of each kind, with those of withData at the end.
func replies() []api.Reply {
	return append([]api.Reply{
		{},
		{Seq: 3},
		{N: 300},
		{Err: api.ErrQueue},
		{Err: 255, Seq: maxTime, N: maxTime},
		{Got: []api.Got{{Receipt: receipt(1, "g", 2, 3), Body: "body", Sent: 4}, {Receipt: receipt(0, "", 0, 0)}, {Body: "\x00\xff", Sent: maxTime}}},
		{About: []api.Range{{Lo: 0, Hi: 65536}, {Lo: 7, Hi: 9}}},
		{Seq: 1, Got: []api.Got{{Body: "b"}}, About: []api.Range{{Lo: 65535, Hi: 65536}}},
	}, withData()...)
}

func withData() []api.Reply {
	return []api.Reply{
		{Data: []string{"x"}},
		{Data: []string{""}},
		{Err: api.ErrFull, Seq: 5, N: 6, Got: []api.Got{{Body: "b", Sent: 7}}, Data: []string{"one", "", "\x80three"}, About: []api.Range{{Lo: 1, Hi: 2}}},
	}
}

// textless has replies of which wire tells an error.
func textless() []api.Reply {
	return []api.Reply{
		{Err: -1}, {Err: 256}, {Seq: -1}, {N: maxTime + 1}, {Got: []api.Got{{Sent: -1}}}, {Got: []api.Got{{Body: string(make([]byte, 129))}}},
		{About: []api.Range{{}}}, {Seq: 1, About: []api.Range{{Lo: 1, Hi: 65537}}}, {Got: make([]api.Got, 1025)},
	}
}

// num and text are octet's words of a number and a text.
func num(n int) string {
	s := ""
	for ; n > 127; n /= 128 {
		s += string([]byte{byte(128 + n%128)})
	}
	return s + string([]byte{byte(n)})
}

func text(s string) string { return num(len(s)) + s }

// replyText is wire's words of a reply, whether or not it may be.
func replyText(r api.Reply) string {
	s := num(int(r.Err)) + num(r.Seq) + num(r.N) + num(len(r.Got))
	for _, g := range r.Got {
		s += num(g.Receipt.Queue) + text(g.Receipt.Group) + num(g.Receipt.Seq) + num(g.Receipt.Count) + text(g.Body) + num(g.Sent)
	}
	s += num(len(r.Data))
	for _, d := range r.Data {
		s += text(d)
	}
	s += num(len(r.About))
	for _, a := range r.About {
		s += num(a.Lo) + num(a.Hi)
	}
	return s
}

// textOf is the document's words of a text that Dump and All tell.
func textOf(x entry) string { return num(x.client) + num(x.num) + replyText(x.reply) }

func textsOf(l []entry) []string {
	var texts []string
	for _, x := range l {
		texts = append(texts, textOf(x))
	}
	return texts
}

// state is all that a table tells of its clients.
func state(s *session.Table) []entry {
	var l []entry
	for _, client := range s.Clients() {
		last := s.Last(client)
		r, known, e := s.Look(client, last)
		if !known || e != api.OK {
			r = api.Reply{Err: -99, Data: []string{fmt.Sprint("it is not told: error ", int(e))}}
		}
		l = append(l, entry{client, last, r})
	}
	return l
}

// spare gives a list with memory behind it that is not the callee's.
func spare[T any](l []T, stray T) []T {
	return append(slices.Clone(l), stray, stray)[:len(l)]
}

// isSpare tells whether the memory behind a list is as spare made it.
func isSpare[T comparable](l []T, stray T) bool {
	return slices.Equal(l[len(l):len(l)+2], []T{stray, stray})
}

func spoil[T any](l []T, with T) {
	l = l[:cap(l)]
	for i := range l {
		l[i] = with
	}
}

var (
	strayGot   = api.Got{Body: "stray", Sent: 99}
	strayRange = api.Range{Lo: 98, Hi: 99}
)

func spareReply(r api.Reply) api.Reply {
	r.Got, r.Data, r.About = spare(r.Got, strayGot), spare(r.Data, "stray"), spare(r.About, strayRange)
	return r
}

func spoilReply(r api.Reply) {
	spoil(r.Got, strayGot)
	spoil(r.Data, "stray")
	spoil(r.About, strayRange)
}

// hasStray tells whether what lay behind a list that was handed in lies in, or behind, one of a reply.
func hasStray(r api.Reply) bool {
	return slices.Contains(r.Got[:cap(r.Got)], strayGot) || slices.Contains(r.Data[:cap(r.Data)], "stray") || slices.Contains(r.About[:cap(r.About)], strayRange)
}

// note notes something, checks that the reply that is handed in stays as it was, and then writes over it.
func note(t *testing.T, s *session.Table, x entry) api.Errno {
	t.Helper()
	handed := spareReply(x.reply)
	e := s.Note(x.client, x.num, handed)
	if !sameReply(handed, x.reply) {
		t.Fatalf("%s: what was handed in is changed: %s", brief(x), brief(handed))
	}
	if !isSpare(handed.Got, strayGot) || !isSpare(handed.Data, "stray") || !isSpare(handed.About, strayRange) {
		t.Fatalf("%s: something is written behind a list", brief(x))
	}
	spoilReply(handed)
	return e
}

// look looks something up twice, and writes over what it is told first: that is nobody else's memory.
func look(t *testing.T, s *session.Table, client, num int) (api.Reply, bool, api.Errno) {
	t.Helper()
	first, _, _ := s.Look(client, num)
	spoilReply(first)
	r, known, e := s.Look(client, num)
	if !known && !sameReply(r, api.Reply{}) || known && e != api.OK {
		t.Fatalf("Look(%d, %d): %s, %v, error %d: one of them must be zero", client, num, brief(r), known, int(e))
	}
	return r, known, e
}

// merge merges a list, checks that the list stays as it was, and then writes over it.
func merge(t *testing.T, s *session.Table, l []string) api.Errno {
	t.Helper()
	stray := textOf(entry{client: 77, num: 77})
	handed := spare(l, stray)
	e := s.Merge(handed)
	if !slices.Equal(handed, l) || !isSpare(handed, stray) {
		t.Fatalf("Merge has changed what was handed in: %q, not %q", handed, l)
	}
	spoil(handed, "stray")
	return e
}

// holding makes a table that has just these.
func holding(t *testing.T, l ...entry) *session.Table {
	t.Helper()
	s := session.New()
	if s == nil {
		t.Fatal("New made nothing")
	}
	for _, x := range l {
		if e := note(t, s, x); e != api.OK {
			t.Fatalf("Note of %s: error %d", brief(x), int(e))
		}
	}
	return s
}

func wantError(t *testing.T, name string, got, want api.Errno) {
	t.Helper()
	if got != want {
		t.Errorf("%s: error %d, not %d", name, int(got), int(want))
	}
}

func wantState(t *testing.T, name string, s *session.Table, want ...entry) {
	t.Helper()
	if got := state(s); !slices.EqualFunc(got, want, sameEntry) {
		t.Errorf("%s: it has\n%s, not\n%s", name, brief(got), brief(want))
	}
}

func wantTexts(t *testing.T, name string, got []string, want ...string) {
	t.Helper()
	if !slices.Equal(got, want) {
		t.Errorf("%s: it tells\n%q, not\n%q", name, got, want)
	}
}

// wantLook checks what is told of a number: a reply if there is one, else an error or nothing.
func wantLook(t *testing.T, s *session.Table, client, num int, want *api.Reply, wantErr api.Errno) {
	t.Helper()
	r, known, e := look(t, s, client, num)
	if known != (want != nil) || e != wantErr || want != nil && !sameReply(r, *want) {
		t.Errorf("Look(%d, %d): %s, %v, error %d, not %s, error %d", client, num, brief(r), known, int(e), brief(want), int(wantErr))
	}
}

// refusesNote checks that a note tells an error, and leaves all as it was.
func refusesNote(t *testing.T, s *session.Table, x entry, want api.Errno) {
	t.Helper()
	was := state(s)
	wantError(t, "Note of "+brief(x), note(t, s, x), want)
	wantState(t, "behind that", s, was...)
}

// refusesMerge checks that a merge tells an error, and leaves all as it was.
func refusesMerge(t *testing.T, name string, s *session.Table, l []string, want api.Errno) {
	t.Helper()
	was := state(s)
	wantError(t, name, merge(t, s, l), want)
	wantState(t, name, s, was...)
}

// many gives entries of the clients from one on, below another one.
func many(from, to, num int) []entry {
	var l []entry
	for client := from; client < to; client++ {
		l = append(l, entry{client, num, api.Reply{Seq: client}})
	}
	return l
}
