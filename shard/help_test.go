package shard_test

import (
	"fmt"
	"hash/fnv"
	"slices"
	"strconv"
	"strings"
	"testing"

	"raceway/api"
	"raceway/queue"
	"raceway/session"
	"raceway/shard"
)

// The document's limits, apart from the packages that are tested.
const (
	span       = 65536
	maxTime    = 1 << 40
	maxNum     = 1 << 62
	maxText    = 4096
	maxItems   = 1024
	maxImport  = 1 << 15
	maxClients = 64
	maxKinds   = 11
)

func from(lo, hi int) api.Range { return api.Range{Lo: lo, Hi: hi} }

func list(l ...api.Range) []api.Range { return l }

var (
	none  = list()
	whole = list(from(0, span))
	low   = list(from(0, span/2))
	high  = list(from(span/2, span))
	stray = from(777, 7777) // lies behind the lists that are handed in
)

// wrongRanges has ranges that may not be.
var wrongRanges = list(from(0, 0), from(7, 7), from(9, 3), from(0, span+1), from(span, span), from(span, span+1), from(span, 0))

// placeOf is the document's place of a name, by the library.
func placeOf(name string) int {
	h := fnv.New32a()
	h.Write([]byte(name))
	return int(h.Sum32()>>16) ^ int(h.Sum32()%span)
}

func has(l []api.Range, p int) bool {
	return slices.ContainsFunc(l, func(r api.Range) bool { return r.Lo >= 0 && r.Hi <= span && r.Lo <= p && p < r.Hi })
}

// namesIn gives the first n names, rising, whose places lie in some ranges. What differs stands in front: of names that differ at their ends alone the places lie close.
func namesIn(l []api.Range, n int) []string {
	var names []string
	for i := 10000; len(names) < n; i++ {
		if name := fmt.Sprint(i, "-g"); has(l, placeOf(name)) {
			names = append(names, name)
		}
	}
	return names
}

// num and text are octet's words of a number and a text.
func num(n int) string {
	s := ""
	for ; n > 127; n /= 128 {
		s += string([]byte{byte(128 + n%128)})
	}
	return s + string([]byte{byte(n)})
}

func text(s string) string { return num(len(s)) + s }

func nums(l ...int) string {
	s := ""
	for _, n := range l {
		s += num(n)
	}
	return s
}

func receiptText(r api.Receipt) string {
	return num(r.Queue) + text(r.Group) + nums(r.Seq, r.Count)
}

func dataText(l []string) string {
	var s strings.Builder
	s.WriteString(num(len(l)))
	for _, d := range l {
		s.WriteString(text(d))
	}
	return s.String()
}

// value is wire's words of a command, whether or not it may be.
func value(c api.Cmd) []byte {
	return []byte(nums(c.Kind, c.Client, c.Num, c.Time, c.Queue) + text(c.Group) + text(c.Body) + text(c.Token) + text(c.Attempt) +
		nums(c.Max, c.Secs) + receiptText(c.Receipt) + nums(c.Range.Lo, c.Range.Hi, c.To) + dataText(c.Data))
}

// replyText is wire's words of a reply.
func replyText(r api.Reply) string {
	s := nums(int(r.Err), r.Seq, r.N, len(r.Got))
	for _, g := range r.Got {
		s += receiptText(g.Receipt) + text(g.Body) + num(g.Sent)
	}
	s += dataText(r.Data) + num(len(r.About))
	for _, a := range r.About {
		s += nums(a.Lo, a.Hi)
	}
	return s
}

// entry is a group, and where it stands.
type entry struct {
	queue int
	name  string
	g     api.Group
}

// groupText is the document's words of a text that an engine's Cut tells.
func groupText(x entry) string {
	s := nums(x.g.Next, len(x.g.Kept))
	for _, m := range x.g.Kept {
		s += nums(m.Seq, m.Sent, m.Count, m.Until, m.From) + text(m.Body)
	}
	s += num(len(x.g.Marks))
	for _, m := range x.g.Marks {
		s += text(m.Token) + nums(m.Seq, m.At)
	}
	return num(x.queue) + text(x.name) + text(s+text(x.g.Attempt))
}

// asked is a client, the number of what it asked last, and the reply.
type asked struct {
	client, num int
	reply       api.Reply
}

// askedText is the document's words of a text that a table's Dump tells.
func askedText(x asked) string { return nums(x.client, x.num) + replyText(x.reply) }

func textsOf[T any](textOf func(T) string, l []T) []string {
	var texts []string
	for _, x := range l {
		texts = append(texts, textOf(x))
	}
	return texts
}

// packed is what a freeze tells, and an import is given.
func packed(sessions []asked, groups []entry) []string {
	return slices.Concat([]string{num(len(sessions))}, textsOf(askedText, sessions), textsOf(groupText, groups))
}

func sameReply(a, b api.Reply) bool {
	return a.Err == b.Err && a.Seq == b.Seq && a.N == b.N && slices.Equal(a.Got, b.Got) && slices.Equal(a.Data, b.Data) && slices.Equal(a.About, b.About)
}

func sameCmd(a, b api.Cmd) bool { return string(value(a)) == string(value(b)) }

func sameDone(a, b api.Done) bool {
	return a.Slot == b.Slot && a.Time == b.Time && sameCmd(a.Cmd, b.Cmd) && sameReply(a.Reply, b.Reply) && a.Fresh == b.Fresh
}

func sameGroup(a, b entry) bool {
	return a.queue == b.queue && a.name == b.name && a.g.Next == b.g.Next && a.g.Attempt == b.g.Attempt && slices.Equal(a.g.Kept, b.g.Kept) && slices.Equal(a.g.Marks, b.g.Marks)
}

func sameAsked(a, b asked) bool {
	return a.client == b.client && a.num == b.num && sameReply(a.reply, b.reply)
}

// picture is all that a shard tells of itself.
type picture struct {
	slots, now int
	served     []api.Range
	groups     []entry
	sessions   []asked
}

func (p picture) same(q picture) bool {
	return p.slots == q.slots && p.now == q.now && slices.Equal(p.served, q.served) && slices.EqualFunc(p.groups, q.groups, sameGroup) && slices.EqualFunc(p.sessions, q.sessions, sameAsked)
}

// behind is a picture as it is one slot later, at another time.
func (p picture) behind(now int) picture {
	p.slots, p.now = p.slots+1, now
	return p
}

// noting is a picture in which a client was answered, too.
func (p picture) noting(x asked) picture {
	p.sessions = append(slices.DeleteFunc(slices.Clone(p.sessions), func(y asked) bool { return y.client == x.client }), x)
	slices.SortFunc(p.sessions, func(a, b asked) int { return a.client - b.client })
	return p
}

func groupsOf(x *queue.Engine) []entry {
	var l []entry
	for q := range 8 {
		for _, name := range x.Groups(q) {
			g, ok := x.Group(q, name)
			if !ok {
				name += " (which there is not)"
			}
			l = append(l, entry{q, name, g})
		}
	}
	return l
}

func sessionsOf(s *session.Table) []asked {
	var l []asked
	for _, client := range s.Clients() {
		last := s.Last(client)
		r, known, e := s.Look(client, last)
		if !known || e != api.OK {
			r = api.Reply{Err: -99, Data: []string{fmt.Sprint("it is not told: error ", int(e))}}
		}
		l = append(l, asked{client, last, r})
	}
	return l
}

func pictureOf(s *shard.Shard) picture {
	x := s.Engine()
	return picture{s.Slots(), s.Now(), x.Served(), groupsOf(x), sessionsOf(s.Sessions())}
}

// brief tells something in one line, whatever it has in it.
func brief(x any) string {
	s := strconv.QuoteToASCII(fmt.Sprintf("%+v", x))
	return s[:min(len(s), 1500)]
}

func wantError(t *testing.T, name string, got, want api.Errno) {
	t.Helper()
	if got != want {
		t.Errorf("%s: error %d, not %d", name, int(got), int(want))
	}
}

func wantPicture(t *testing.T, name string, s *shard.Shard, want picture) {
	t.Helper()
	if got := pictureOf(s); !got.same(want) {
		t.Errorf("%s: it has\n%s, not\n%s", name, brief(got), brief(want))
	}
}

func wantDone(t *testing.T, name string, got, want api.Done) {
	t.Helper()
	if !sameDone(got, want) {
		t.Errorf("%s: it tells\n%s, not\n%s", name, brief(got), brief(want))
	}
}

func wantTexts(t *testing.T, name string, got, want []string) {
	t.Helper()
	if !slices.Equal(got, want) {
		t.Errorf("%s: %d texts\n%s, not %d\n%s", name, len(got), brief(got), len(want), brief(want))
	}
}

// spare gives a list with memory behind it that is not the callee's.
func spare[T any](l []T, stray T) []T {
	return append(slices.Clone(l), stray, stray)[:len(l)]
}

// isSpare tells whether a list, and the memory behind it, is as spare made it.
func isSpare[T comparable](l, was []T, stray T) bool {
	return slices.Equal(l[:len(l)+2], append(slices.Clone(was), stray, stray))
}

// spoil writes over all the memory that a list has.
func spoil[T any](l []T, with T) {
	l = l[:cap(l)]
	for i := range l {
		l[i] = with
	}
}

func spoilDone(d api.Done) {
	spoil(d.Cmd.Data, "spoiled")
	spoil(d.Reply.Got, api.Got{Body: "spoiled"})
	spoil(d.Reply.Data, "spoiled")
	spoil(d.Reply.About, stray)
}

// newShard makes a shard of right arguments, and writes over these then.
func newShard(t *testing.T, confs []api.Queue, served []api.Range) *shard.Shard {
	t.Helper()
	q, r := spare(confs, api.Queue{Vis: -1}), spare(served, stray)
	s, e := shard.New(q, r)
	if e != api.OK || s == nil {
		t.Fatalf("New(%v, %v): error %d", confs, served, int(e))
	}
	if !isSpare(q, confs, api.Queue{Vis: -1}) || !isSpare(r, served, stray) {
		t.Fatalf("New(%v, %v) has changed what was handed in", confs, served)
	}
	spoil(q, api.Queue{Vis: -1})
	spoil(r, stray)
	return s
}

// apply applies a value to a shard and, ahead of that, to a copy of it: both tell and become the same, neither touches the other, what is handed in stays, and what is told is nobody else's memory.
func apply(t *testing.T, s *shard.Shard, v []byte) api.Done {
	t.Helper()
	was := pictureOf(s)
	handed := spare(v, 0xee)
	other := s.Copy()
	first := other.Apply(handed)
	if !pictureOf(s).same(was) {
		t.Fatalf("%s: what is applied to a copy changes the shard", brief(v))
	}
	told := s.Apply(handed)
	if !isSpare(handed, v, 0xee) {
		t.Fatalf("%s: what was handed in is changed", brief(v))
	}
	spoil(handed, 0xee)
	now := pictureOf(s)
	if !sameDone(first, told) || !pictureOf(other).same(now) {
		t.Fatalf("%s: the shard tells %s, its copy %s", brief(v), brief(told), brief(first))
	}
	if slices.Contains(told.Reply.About[:cap(told.Reply.About)], stray) {
		t.Fatalf("%s: what lay behind a list is handed out", brief(v))
	}
	spoilDone(first)
	if !pictureOf(s).same(now) || !pictureOf(other).same(now) {
		t.Fatalf("%s: what was told is kept", brief(v))
	}
	if now.slots != was.slots+1 || told.Slot != was.slots || now.now < was.now || told.Time != now.now {
		t.Fatalf("%s: from slot %d and time %d to slot %d and time %d: %s", brief(v), was.slots, was.now, now.slots, now.now, brief(told))
	}
	return told
}

func do(t *testing.T, s *shard.Shard, c api.Cmd) api.Done {
	t.Helper()
	return apply(t, s, value(c))
}

// did does a command that is right, and tells its reply.
func did(t *testing.T, s *shard.Shard, c api.Cmd) api.Reply {
	t.Helper()
	d := do(t, s, c)
	if d.Reply.Err != api.OK || !d.Fresh {
		t.Fatalf("%s: %s", brief(c), brief(d))
	}
	return d.Reply
}

// holding makes a shard that serves these ranges, and has these groups and sessions, of which none has Data; its slots are as many as the ranges.
func holding(t *testing.T, served []api.Range, sessions []asked, groups []entry) *shard.Shard {
	t.Helper()
	s := newShard(t, withDead(2), nil)
	for _, r := range served {
		here := slices.DeleteFunc(slices.Clone(groups), func(x entry) bool { return !has(list(r), placeOf(x.name)) })
		did(t, s, api.Cmd{Kind: api.CmImport, Range: r, Data: packed(sessions, here)})
	}
	return s
}

func load(t *testing.T, confs []api.Queue, data []string) (*shard.Shard, api.Errno) {
	t.Helper()
	handed := spare(data, "stray")
	s, e := shard.Load(confs, handed)
	if !isSpare(handed, data, "stray") {
		t.Fatalf("Load has changed what was handed in: %s", brief(data))
	}
	spoil(handed, "stray")
	if (e != api.OK) != (s == nil) {
		t.Fatalf("Load of %s: %v, error %d", brief(data), s, int(e))
	}
	return s, e
}

// dump dumps a shard twice, and writes over what it is told first.
func dump(t *testing.T, s *shard.Shard) []string {
	t.Helper()
	was := pictureOf(s)
	first, e := s.Dump()
	wantError(t, "Dump", e, api.OK)
	spoil(first, "spoiled")
	l, e := s.Dump()
	wantError(t, "Dump", e, api.OK)
	wantPicture(t, "behind a Dump", s, was)
	return l
}

// plainConf is a queue that keeps messages for long, and has no dead letters.
func plainConf() api.Queue { return api.Queue{Vis: 30, Keep: 100000, Dead: -1} }

// withDead is a queue 0 whose messages die behind most deliveries into queue 1, and a queue 2 beside them.
func withDead(most int) []api.Queue {
	return []api.Queue{{Vis: 30, Keep: 100000, Max: most, Dead: 1}, {Vis: 10, Keep: 100000, Dead: -1}, {Vis: 0, Keep: 100000, Dead: -1}}
}

// waiting is a message that nobody got yet, sent by queue 0.
func waiting(seq, sent int) api.Kept {
	return api.Kept{Seq: seq, Sent: sent, Body: fmt.Sprint("body ", seq)}
}

// of is a group that has those messages, and no tokens.
func of(l ...api.Kept) api.Group {
	g := api.Group{Next: 1, Kept: l}
	for _, m := range l {
		g.Next = max(g.Next, m.Seq+1)
	}
	return g
}

// scattered gives groups of three queues all over the places, in the order of their queues and names.
func scattered(n int) []entry {
	var l []entry
	for q := range 3 {
		for i, name := range namesIn(whole, n) {
			if (i+q)%3 > 0 {
				l = append(l, entry{q, name, api.Group{Next: 300 + i, Kept: []api.Kept{waiting(7+q, 9), waiting(299, 11)}, Marks: []api.Mark{{Token: "t", Seq: 7, At: 8}}, Attempt: "p"}})
			}
		}
	}
	return l
}

func inside(l []entry, r ...api.Range) []entry {
	return slices.DeleteFunc(slices.Clone(l), func(x entry) bool { return !has(r, placeOf(x.name)) })
}

func outside(l []entry, r ...api.Range) []entry {
	return slices.DeleteFunc(slices.Clone(l), func(x entry) bool { return has(r, placeOf(x.name)) })
}

// clients gives so many clients, from 1 on, each of which asked by this number.
func clients(n, num int) []asked {
	var l []asked
	for i := range n {
		l = append(l, asked{i + 1, num, api.Reply{Seq: i + 1}})
	}
	return l
}
