package queue_test

import (
	"fmt"
	"hash/fnv"
	"slices"
	"testing"

	"raceway/api"
	"raceway/queue"
)

// The document's limits, apart from the package that is tested.
const (
	span    = 65536
	maxTime = 1 << 40
	maxVis  = 43200
	maxKeep = 1209600
	window  = 300
	maxKept = 12
	maxText = 4096
)

func from(lo, hi int) api.Range { return api.Range{Lo: lo, Hi: hi} }

func list(l ...api.Range) []api.Range { return l }

var (
	whole = list(from(0, span))
	low   = list(from(0, span/2))
	high  = list(from(span/2, span))
	stray = from(777, 7777) // lies behind the lists that are handed in
)

// wrong has ranges that may not be.
var wrong = list(from(0, 0), from(7, 7), from(9, 3), from(-1, 10), from(-1, span), from(0, span+1), from(span, span), from(span, span+1), from(span, 0), from(-5, -2))

// placeOf is the document's place of a name, by the library.
func placeOf(name string) int {
	h := fnv.New32a()
	h.Write([]byte(name))
	return int(h.Sum32()>>16) ^ int(h.Sum32()%span)
}

// has tells whether a place is in one of some ranges, as chapter 4 says it.
func has(l []api.Range, p int) bool {
	return slices.ContainsFunc(l, func(r api.Range) bool { return r.Lo >= 0 && r.Hi <= span && r.Lo <= p && p < r.Hi })
}

// namesIn gives the first n names, rising, whose places lie in some ranges.
func namesIn(l []api.Range, n int) []string {
	var names []string
	for i := 100; len(names) < n; i++ {
		if name := fmt.Sprint("g", i); has(l, placeOf(name)) {
			names = append(names, name)
		}
	}
	return names
}

// entry is a group, and where it stands.
type entry struct {
	queue int
	name  string
	g     api.Group
}

func same(a, b api.Group) bool {
	return a.Next == b.Next && a.Attempt == b.Attempt && slices.Equal(a.Kept, b.Kept) && slices.Equal(a.Marks, b.Marks)
}

func sameEntry(a, b entry) bool { return a.queue == b.queue && a.name == b.name && same(a.g, b.g) }

func sameReply(a, b api.Reply) bool {
	return a.Err == b.Err && a.Seq == b.Seq && a.N == b.N && slices.Equal(a.Got, b.Got) && slices.Equal(a.Data, b.Data) && slices.Equal(a.About, b.About)
}

// state is all that an engine tells of itself.
func state(x *queue.Engine) []entry {
	var l []entry
	for q := range 8 {
		for _, name := range x.Groups(q) {
			g, ok := x.Group(q, name)
			if !ok {
				name += " (which there is not)"
			}
			l = append(l, entry{q, name, g})
		}
	}
	return l
}

// num and text are octet's words of a number and a text.
func num(n int) string {
	s := ""
	for ; n > 127; n /= 128 {
		s += string([]byte{byte(128 + n%128)})
	}
	return s + string([]byte{byte(n)})
}

func text(s string) string { return num(len(s)) + s }

// dumpOf is the document's words of a group's Dump.
func dumpOf(g api.Group) string {
	s := num(g.Next) + num(len(g.Kept))
	for _, m := range g.Kept {
		s += num(m.Seq) + num(m.Sent) + num(m.Count) + num(m.Until) + num(m.From) + text(m.Body)
	}
	s += num(len(g.Marks))
	for _, m := range g.Marks {
		s += text(m.Token) + num(m.Seq) + num(m.At)
	}
	return s + text(g.Attempt)
}

// textOf is the document's words of a text that Cut tells.
func textOf(x entry) string { return num(x.queue) + text(x.name) + text(dumpOf(x.g)) }

func textsOf(l []entry) []string {
	var texts []string
	for _, x := range l {
		texts = append(texts, textOf(x))
	}
	return texts
}

// newEngine makes an engine of right arguments.
func newEngine(t *testing.T, confs []api.Queue, served []api.Range) *queue.Engine {
	t.Helper()
	x, e := queue.New(confs, served)
	if e != api.OK || x == nil {
		t.Fatalf("New(%v, %v): error %d", confs, served, int(e))
	}
	return x
}

// holding makes an engine that serves all, and has just these groups.
func holding(t *testing.T, confs []api.Queue, l ...entry) *queue.Engine {
	t.Helper()
	x := newEngine(t, confs, nil)
	if e := x.Paste(whole[0], textsOf(l)); e != api.OK {
		t.Fatalf("Paste of %v: error %d", l, int(e))
	}
	return x
}

// spoil writes over all the memory that a list has.
func spoil[T any](l []T, with T) {
	l = l[:cap(l)]
	for i := range l {
		l[i] = with
	}
}

func spoilReply(r api.Reply) {
	spoil(r.Got, api.Got{Body: "spoiled"})
	spoil(r.Data, "spoiled")
	spoil(r.About, stray)
}

// do does a command on an engine and, ahead of that, on a copy of it: both tell and become the same, neither touches the other, what is handed in stays, and what is told is nobody else's memory.
func do(t *testing.T, x *queue.Engine, c api.Cmd, about ...api.Range) api.Reply {
	t.Helper()
	was, served := state(x), x.Served()
	handed := append(slices.Clone(about), stray, stray)
	c.Data = []string{"data", "of the caller", "behind"}[:2]
	y := x.Copy()
	other := y.Do(c, handed[:len(about)])
	if !slices.EqualFunc(state(x), was, sameEntry) {
		t.Fatalf("%+v of a copy has changed the engine:\n%v, it was\n%v", c, state(x), was)
	}
	told := x.Do(c, handed[:len(about)])
	if !sameReply(told, other) || !slices.EqualFunc(state(x), state(y), sameEntry) {
		t.Fatalf("%+v: the engine tells %+v, its copy %+v", c, told, other)
	}
	if !slices.Equal(handed, append(slices.Clone(about), stray, stray)) || !slices.Equal(c.Data[:3], []string{"data", "of the caller", "behind"}) {
		t.Fatalf("%+v: what was handed in is changed: %v, %v", c, handed, c.Data[:3])
	}
	if slices.Contains(other.About[:cap(other.About)], stray) {
		t.Fatalf("%+v: what lay behind a list is handed out", c)
	}
	spoilReply(other)
	spoil(handed, stray)
	for _, z := range []*queue.Engine{x, y} {
		if !slices.Equal(z.Served(), served) || !slices.EqualFunc(state(x), state(y), sameEntry) {
			t.Fatalf("%+v: what was told, or handed in, is kept: it serves %v, not %v", c, z.Served(), served)
		}
	}
	if told.Err != api.OK && !sameReply(told, api.Reply{Err: told.Err}) {
		t.Fatalf("%+v: an error is not told alone: %+v", c, told)
	}
	return told
}

func wantReply(t *testing.T, name string, got, want api.Reply) {
	t.Helper()
	if !sameReply(got, want) {
		t.Errorf("%s: it answers\n%+v, not\n%+v", name, got, want)
	}
}

func wantError(t *testing.T, name string, got, want api.Errno) {
	t.Helper()
	if got != want {
		t.Errorf("%s: error %d, not %d", name, int(got), int(want))
	}
}

func wantState(t *testing.T, name string, x *queue.Engine, want ...entry) {
	t.Helper()
	if got := state(x); !slices.EqualFunc(got, want, sameEntry) {
		t.Errorf("%s: it has\n%v, not\n%v", name, got, want)
	}
}

func wantServed(t *testing.T, name string, x *queue.Engine, want ...api.Range) {
	t.Helper()
	if got := x.Served(); !slices.Equal(got, want) {
		t.Errorf("%s: it serves %v, not %v", name, got, want)
	}
}

// refuses checks that a command tells an error, alone, and leaves all as it was.
func refuses(t *testing.T, name string, x *queue.Engine, want api.Errno, c api.Cmd, about ...api.Range) {
	t.Helper()
	was := state(x)
	wantReply(t, name, do(t, x, c, about...), api.Reply{Err: want})
	wantState(t, name, x, was...)
}

// plainConf is a queue that keeps messages for long, and has no dead letters.
func plainConf() api.Queue { return api.Queue{Vis: 30, Keep: 10000, Dead: -1} }

// withDead is a queue 0 whose messages die behind most deliveries into queue 1, and a queue 2 beside them.
func withDead(most int) []api.Queue {
	return []api.Queue{{Vis: 30, Keep: 1000, Max: most, Dead: 1}, {Vis: 10, Keep: 500, Dead: -1}, {Vis: 0, Keep: 100, Dead: -1}}
}

// waiting is a message that nobody got yet, sent by queue 0.
func waiting(seq, sent int) api.Kept {
	return api.Kept{Seq: seq, Sent: sent, Body: fmt.Sprint("body ", seq)}
}

// given is one that was delivered so often, and is in flight until then.
func given(seq, sent, count, until int) api.Kept {
	m := waiting(seq, sent)
	m.Count, m.Until = count, until
	return m
}

// came is one that came from another queue.
func came(seq, sent, queue int) api.Kept {
	m := waiting(seq, sent)
	m.From = queue
	return m
}

// of is a group that has those messages.
func of(l ...api.Kept) api.Group {
	g := api.Group{Next: 1, Kept: l}
	for _, m := range l {
		g.Next = max(g.Next, m.Seq+1)
	}
	return g
}

// many gives so many messages that nobody got yet, with numbers from 1 on.
func many(n, sent int) []api.Kept {
	var l []api.Kept
	for i := range n {
		l = append(l, waiting(i+1, sent))
	}
	return l
}

// delivery is what is told of a message.
func delivery(queue int, name string, m api.Kept) api.Got {
	return api.Got{Receipt: api.Receipt{Queue: queue, Group: name, Seq: m.Seq, Count: m.Count}, Body: m.Body, Sent: m.Sent}
}

func receipt(queue int, name string, seq, count int) api.Receipt {
	return api.Receipt{Queue: queue, Group: name, Seq: seq, Count: count}
}
