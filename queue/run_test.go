package queue_test

import (
	"cmp"
	"fmt"
	"math/rand/v2"
	"slices"
	"testing"

	"raceway/api"
	"raceway/group"
	"raceway/queue"
)

// plain is an engine in the document's words: places one by one, and groups in a list.
type plain struct {
	confs  []api.Queue
	served [span]bool
	groups []entry
}

func (x *plain) sorted() []entry {
	slices.SortFunc(x.groups, func(a, b entry) int { return cmp.Or(cmp.Compare(a.queue, b.queue), cmp.Compare(a.name, b.name)) })
	return x.groups
}

func (x *plain) at(q int, name string) int {
	return slices.IndexFunc(x.groups, func(g entry) bool { return g.queue == q && g.name == name })
}

// look tells a group, looked at, or a fresh one; comes says whether that is kept.
func (x *plain) look(q int, name string, now int, comes bool) api.Group {
	i := x.at(q, name)
	if i < 0 && !comes {
		return group.Fresh()
	}
	if i < 0 {
		x.groups = append(x.groups, entry{q, name, group.Fresh()})
		i = len(x.groups) - 1
	}
	x.groups[i].g = group.Expire(x.groups[i].g, now, x.confs[q].Keep)
	return x.groups[i].g
}

func (x *plain) set(q int, name string, g api.Group) {
	if i := x.at(q, name); i >= 0 {
		x.groups[i].g = g
	}
}

func (x *plain) isAbout(p int, about []api.Range) bool {
	return x.served[p] && (len(about) == 0 || has(about, p))
}

func (x *plain) isQueue(q int) bool { return q >= 0 && q < len(x.confs) }

// names tells the groups of a queue that a command is about.
func (x *plain) names(q int, about []api.Range) []string {
	var l []string
	for _, g := range x.sorted() {
		if g.queue == q && x.isAbout(placeOf(g.name), about) {
			l = append(l, g.name)
		}
	}
	return l
}

func (x *plain) do(c api.Cmd, about []api.Range) api.Reply {
	if c.Time < 0 || c.Time > maxTime || c.Secs < 0 || c.Secs > maxTime {
		return api.Reply{Err: api.ErrArg}
	}
	switch c.Kind {
	case api.CmNothing:
		return api.Reply{}
	case api.CmSend:
		return x.send(c, about)
	case api.CmReceive:
		return x.receive(c, about)
	case api.CmDelete, api.CmChange:
		return x.settle(c, about)
	case api.CmPurge:
		return x.purge(c, about)
	case api.CmRedrive:
		return x.redrive(c, about)
	}
	return api.Reply{Err: api.ErrArg}
}

func (x *plain) send(c api.Cmd, about []api.Range) api.Reply {
	if !x.isQueue(c.Queue) {
		return api.Reply{Err: api.ErrQueue}
	}
	if len(c.Group) == 0 {
		return api.Reply{Err: api.ErrArg}
	}
	if !x.isAbout(placeOf(c.Group), about) {
		return api.Reply{Err: api.ErrMoved}
	}
	g, seq, e := group.Send(x.look(c.Queue, c.Group, c.Time, true), c.Time, c.Queue, c.Body, c.Token)
	x.set(c.Queue, c.Group, g)
	return api.Reply{Err: e, Seq: seq}
}

func (x *plain) receive(c api.Cmd, about []api.Range) api.Reply {
	if !x.isQueue(c.Queue) {
		return api.Reply{Err: api.ErrQueue}
	}
	if c.Max < 1 || c.Max > 10 || c.Secs > maxVis {
		return api.Reply{Err: api.ErrArg}
	}
	r := api.Reply{About: runs(func(p int) bool { return x.isAbout(p, about) })}
	names := x.names(c.Queue, about)
	for _, name := range names {
		g := x.look(c.Queue, name, c.Time, false)
		for _, m := range g.Kept {
			if c.Attempt != "" && c.Attempt == g.Attempt && m.Until > c.Time && len(r.Got) < c.Max {
				r.Got = append(r.Got, delivery(c.Queue, name, m))
			}
		}
	}
	if len(r.Got) > 0 {
		return r
	}
	dead := x.confs[c.Queue].Dead
	for _, name := range names {
		if len(r.Got) == c.Max {
			break
		}
		most, room := 0, 0
		if dead >= 0 {
			most, room = x.confs[c.Queue].Max, maxKept-len(x.look(dead, name, c.Time, false).Kept)
		}
		g, got, died := group.Receive(x.look(c.Queue, name, c.Time, false), c.Time, c.Max-len(r.Got), c.Secs, most, room)
		for _, m := range got {
			g.Attempt = c.Attempt
			r.Got = append(r.Got, delivery(c.Queue, name, m))
		}
		x.set(c.Queue, name, g)
		if len(died) > 0 {
			x.set(dead, name, group.Put(x.look(dead, name, c.Time, true), c.Time, died))
		}
	}
	return r
}

func (x *plain) settle(c api.Cmd, about []api.Range) api.Reply {
	q, name := c.Receipt.Queue, c.Receipt.Group
	if !x.isQueue(q) {
		return api.Reply{Err: api.ErrQueue}
	}
	if c.Kind == api.CmChange && c.Secs > maxVis {
		return api.Reply{Err: api.ErrArg}
	}
	if !x.isAbout(placeOf(name), about) {
		return api.Reply{Err: api.ErrMoved}
	}
	g := x.look(q, name, c.Time, false)
	var e api.Errno
	if c.Kind == api.CmDelete {
		g, e = group.Delete(g, c.Time, c.Receipt.Seq, c.Receipt.Count)
	} else {
		g, e = group.Change(g, c.Time, c.Receipt.Seq, c.Receipt.Count, c.Secs)
	}
	if e == api.OK {
		x.set(q, name, g)
	}
	return api.Reply{Err: e}
}

func (x *plain) purge(c api.Cmd, about []api.Range) api.Reply {
	if !x.isQueue(c.Queue) {
		return api.Reply{Err: api.ErrQueue}
	}
	r := api.Reply{About: runs(func(p int) bool { return x.isAbout(p, about) })}
	for _, name := range x.names(c.Queue, about) {
		g, n := group.Purge(x.look(c.Queue, name, c.Time, false))
		x.set(c.Queue, name, g)
		r.N += n
	}
	return r
}

func (x *plain) redrive(c api.Cmd, about []api.Range) api.Reply {
	if !x.isQueue(c.Queue) {
		return api.Reply{Err: api.ErrQueue}
	}
	if c.Max < 1 || c.Max > 10 {
		return api.Reply{Err: api.ErrArg}
	}
	if !x.isAbout(placeOf(c.Group), about) {
		return api.Reply{Err: api.ErrMoved}
	}
	if group.Flying(x.look(c.Queue, c.Group, c.Time, false), c.Time) {
		return api.Reply{Err: api.ErrBusy}
	}
	var r api.Reply
	for r.N < c.Max {
		g := x.look(c.Queue, c.Group, c.Time, false)
		if len(g.Kept) == 0 || g.Kept[0].From == c.Queue || !x.isQueue(g.Kept[0].From) {
			break
		}
		m := g.Kept[0]
		home := x.look(m.From, c.Group, c.Time, true)
		if len(home.Kept) >= maxKept {
			break
		}
		x.set(m.From, c.Group, group.Put(home, c.Time, []api.Kept{m}))
		g.Kept = g.Kept[1:]
		x.set(c.Queue, c.Group, g)
		r.N++
	}
	return r
}

// chancer makes up commands.
type chancer struct {
	*rand.Rand
	confs []api.Queue
	names []string
	now   int
	seen  []api.Receipt
}

func newChancer(seed uint64) *chancer {
	c := &chancer{Rand: rand.New(rand.NewPCG(12, seed)), names: append(namesIn(low, 3), namesIn(high, 3)...)}
	size := 1 + c.IntN(6)
	for i := range size {
		q := api.Queue{Vis: c.IntN(100), Keep: pick(c, 20, 50, 400, 1000), Max: c.IntN(4), Dead: -1}
		if dead := c.IntN(size); dead != i && c.IntN(4) > 0 {
			q.Dead = dead
		}
		c.confs = append(c.confs, q)
	}
	return c
}

func pick[T any](c *chancer, l ...T) T { return l[c.IntN(len(l))] }

// seldom tells n mostly, and now and then one of some others.
func (c *chancer) seldom(n int, others ...int) int {
	if c.IntN(25) == 0 {
		return pick(c, others...)
	}
	return n
}

func (c *chancer) queue() int { return c.seldom(c.IntN(len(c.confs)), -1, len(c.confs)) }

// cmd makes up a command; most of them may be.
func (c *chancer) cmd() api.Cmd {
	c.now = max(0, c.now+pick(c, 0, 0, 1, 1, 2, 3, 5, 9, 20, -4))
	x := api.Cmd{
		Kind: c.seldom(pick(c, api.CmSend, api.CmSend, api.CmSend, api.CmReceive, api.CmReceive, api.CmReceive, api.CmDelete, api.CmDelete, api.CmChange, api.CmPurge, api.CmRedrive, api.CmRedrive), 0, 7, 8, 9, 10, 11, -1),
		Time: c.seldom(c.now, -1, 0, c.now+1000), Queue: c.queue(), Group: pick(c, c.names...), Body: fmt.Sprint("b", c.IntN(40)),
		Attempt: pick(c, "", "p", "q"), Max: c.seldom(1+c.IntN(10), 0, 10, 11), Secs: c.seldom(pick(c, 0, 1, 5, 10, 30), -1, maxVis, maxVis+1, maxTime+1),
		Receipt: receipt(c.queue(), pick(c, c.names...), c.IntN(6), c.IntN(3)),
	}
	if x.Kind == api.CmPurge && c.IntN(3) > 0 {
		x.Kind = api.CmReceive
	}
	if c.IntN(2) == 0 {
		x.Token = fmt.Sprint("t", c.IntN(60))
	}
	if c.IntN(40) == 0 {
		x.Group = ""
	}
	if len(c.seen) > 0 && c.IntN(8) > 0 {
		x.Receipt = c.seen[max(0, len(c.seen)-1-c.IntN(12))]
	}
	return x
}

func (c *chancer) note(r api.Reply) {
	for _, got := range r.Got {
		c.seen = append(c.seen, got.Receipt)
	}
}

// somewhere makes up a range that may be; its ends are seldom far from those of others.
func (c *chancer) somewhere() api.Range {
	ends := []int{0, span}
	for _, name := range c.names {
		ends = append(ends, placeOf(name), placeOf(name)+1)
	}
	for {
		if r := from(pick(c, ends...), pick(c, ends...)); r.Lo < r.Hi {
			return r
		}
	}
}

func (c *chancer) about() []api.Range {
	var l []api.Range
	if c.IntN(3) > 0 {
		return l
	}
	for range 1 + c.IntN(3) {
		l = append(l, pick(c, c.somewhere(), c.somewhere(), pick(c, wrong...)))
	}
	return l
}

// P12.2, P12.3, P12.4: any commands, cuts and pastes are answered as the document's words say, and leave what they say.
func TestRunsAreAsTheDocumentSays(t *testing.T) {
	for seed := range uint64(60) {
		c := newChancer(seed)
		x, want := newEngine(t, c.confs, nil), &plain{confs: c.confs}
		for step := range 250 {
			name := fmt.Sprintf("run %d, step %d", seed, step)
			if c.IntN(12) == 0 || step == 0 {
				c.move(t, name, x, want)
			} else {
				cmd, about := c.cmd(), c.about()
				r := do(t, x, cmd, about...)
				c.note(r)
				wantReply(t, fmt.Sprintf("%s: %+v about %v", name, cmd, about), r, want.do(cmd, about))
			}
			wantState(t, name, x, want.sorted()...)
			if t.Failed() {
				return
			}
		}
	}
}

// move cuts or pastes some range of both.
func (c *chancer) move(t *testing.T, name string, x *queue.Engine, want *plain) {
	r := pick(c, c.somewhere(), whole[0], pick(c, append(slices.Clone(wrong), x.Served()...)...))
	all, some := has(list(r), r.Lo), false
	for p := max(0, r.Lo); p < min(r.Hi, span); p++ {
		all, some = all && want.served[p], some || want.served[p]
	}
	texts, e := x.Cut(r)
	if all != (e == api.OK) || !all && e != api.ErrArg {
		t.Fatalf("%s: Cut(%v): error %d, but %v is served", name, r, int(e), x.Served())
	}
	if all {
		wantTexts(t, name, texts, textsOf(inside(want.sorted(), r)))
		want.groups = outside(want.groups, r)
	}
	if all && c.IntN(2) == 0 {
		for p := r.Lo; p < r.Hi; p++ {
			want.served[p] = false
		}
		return
	}
	// What was cut comes back; or, where nothing is served, something made up.
	if !all {
		texts = textsOf(inside([]entry{{0, c.names[0], full(1)}, {len(c.confs) - 1, c.names[5], of(many(12, c.now)...)}}, r))
	}
	e = x.Paste(r, texts)
	if right := all || !some && has(list(r), r.Lo); right != (e == api.OK) || !right && e != api.ErrArg {
		t.Fatalf("%s: Paste(%v): error %d", name, r, int(e))
	}
	if e != api.OK {
		return
	}
	for p := r.Lo; p < r.Hi; p++ {
		want.served[p] = true
	}
	for _, s := range texts {
		var at entry
		at.queue = int(s[0])
		at.name = s[2 : 2+int(s[1])]
		g, ok := x.Group(at.queue, at.name)
		if at.g = g; !ok || textOf(at) != s {
			t.Fatalf("%s: pasted %q, which is %v", name, s, g)
		}
		want.groups = append(want.groups, at)
	}
}

// parts are engines that serve all places together, each place once.
type parts []*queue.Engine

// all is what they have together.
func (l parts) all() []entry {
	var groups []entry
	for _, x := range l {
		groups = append(groups, state(x)...)
	}
	slices.SortFunc(groups, func(a, b entry) int { return cmp.Or(cmp.Compare(a.queue, b.queue), cmp.Compare(a.name, b.name)) })
	return groups
}

// move brings something that one of them serves to another one.
func (l parts) move(t *testing.T, c *chancer) {
	t.Helper()
	source, goal := pick(c, l...), pick(c, l...)
	served := source.Served()
	if len(served) == 0 {
		return
	}
	r := pick(c, served...)
	if m := c.somewhere(); c.IntN(4) > 0 && max(m.Lo, r.Lo) < min(m.Hi, r.Hi) {
		r = from(max(m.Lo, r.Lo), min(m.Hi, r.Hi))
	}
	texts := cut(t, source, r)
	c.Shuffle(len(texts), func(i, j int) { texts[i], texts[j] = texts[j], texts[i] })
	wantError(t, fmt.Sprint("Paste of ", r), goal.Paste(r, texts), api.OK)
}

// P12.5: one engine that serves all, and some that serve parts, which are cut and pasted at any step, answer alike; no other group is touched.
func TestPartsAnswerAsTheWhole(t *testing.T) {
	for seed := range uint64(60) {
		c := newChancer(1000 + seed)
		one := newEngine(t, c.confs, whole)
		l := parts{newEngine(t, c.confs, low), newEngine(t, c.confs, high), newEngine(t, c.confs, nil)}[:2+seed%2]
		for step := range 250 {
			if c.IntN(3) == 0 {
				l.move(t, c)
			}
			cmd := c.cmd()
			name := fmt.Sprintf("run %d, step %d, %+v", seed, step, cmd)
			if cmd.Kind == api.CmReceive || cmd.Kind == api.CmPurge {
				c.note(l.doPlaces(t, name, one, cmd, pick(c, l...)))
			} else {
				l.doGroup(t, name, one, cmd)
			}
			wantState(t, name, one, l.all()...)
			if t.Failed() {
				return
			}
		}
	}
}

// doPlaces does a command of one part, and the same, about what it was about, of the whole.
func (l parts) doPlaces(t *testing.T, name string, one *queue.Engine, c api.Cmd, x *queue.Engine) api.Reply {
	t.Helper()
	was, before := state(one), l.all()
	r := do(t, x, c)
	if r.Err == api.OK && len(r.About) == 0 {
		wantReply(t, name+", about nothing", r, api.Reply{})
		wantState(t, name+", about nothing", one, l.all()...)
		return r
	}
	if r.Err == api.OK && !slices.Equal(r.About, x.Served()) {
		t.Errorf("%s: about %v, but it serves %v", name, r.About, x.Served())
	}
	wantReply(t, name, do(t, one, c, r.About...), r)
	for _, old := range was {
		if g, ok := one.Group(old.queue, old.name); !has(r.About, placeOf(old.name)) && (!ok || !same(g, old.g)) {
			t.Errorf("%s: the group %d, %s is touched: %v, it was %v", name, old.queue, old.name, g, old.g)
		}
	}
	if len(l.all()) < len(before) {
		t.Errorf("%s: groups are gone", name)
	}
	return r
}

// doGroup does a command about one group of all parts: who serves it answers as the whole, the others that it moved; no other name's groups are touched.
func (l parts) doGroup(t *testing.T, name string, one *queue.Engine, c api.Cmd) {
	t.Helper()
	target := c.Group
	if c.Kind == api.CmDelete || c.Kind == api.CmChange {
		target = c.Receipt.Group
	}
	others := func(groups []entry) []entry {
		return slices.DeleteFunc(groups, func(x entry) bool { return x.name == target })
	}
	was := others(state(one))
	want := do(t, one, c)
	if now := others(state(one)); !slices.EqualFunc(now, was, sameEntry) {
		t.Errorf("%s: other groups are touched: %v, they were %v", name, now, was)
	}
	for _, x := range l {
		before := state(x)
		r := do(t, x, c)
		if has(x.Served(), placeOf(target)) {
			wantReply(t, name, r, want)
			continue
		}
		if r.Err != api.ErrMoved && !sameReply(r, want) {
			t.Errorf("%s: who does not serve it answers %+v, the whole %+v", name, r, want)
		}
		wantState(t, name+", of who does not serve it", x, before...)
	}
}

// P12.5: a group goes on as it was wherever it is: its attempt, its receipts, its tokens and its time.
func TestGroupGoesOnElsewhere(t *testing.T) {
	x, y := newEngine(t, withDead(1), whole), newEngine(t, withDead(1), nil)
	do(t, x, api.Cmd{Kind: api.CmSend, Time: 5, Group: "g", Body: "b", Token: "t"})
	got := do(t, x, api.Cmd{Kind: api.CmReceive, Time: 6, Max: 1, Secs: 10, Attempt: "p"})
	swap := func() {
		t.Helper()
		wantError(t, "Paste", y.Paste(whole[0], cut(t, x, whole[0])), api.OK)
		x, y = y, x
	}
	swap()
	wantReply(t, "a token", do(t, x, api.Cmd{Kind: api.CmSend, Time: 7, Group: "g", Body: "c", Token: "t"}), api.Reply{Seq: 1})
	wantReply(t, "an attempt", do(t, x, api.Cmd{Kind: api.CmReceive, Time: 7, Max: 1, Secs: 10, Attempt: "p"}), got)
	wantReply(t, "another one", do(t, x, api.Cmd{Kind: api.CmReceive, Time: 15, Max: 1, Secs: 10, Attempt: "q"}), api.Reply{About: whole})
	swap()
	wantReply(t, "a change", do(t, x, api.Cmd{Kind: api.CmChange, Time: 15, Receipt: got.Got[0].Receipt, Secs: 20}), api.Reply{})
	swap()
	wantReply(t, "in flight", do(t, x, api.Cmd{Kind: api.CmReceive, Time: 34, Max: 1, Secs: 10}), api.Reply{About: whole})
	wantReply(t, "of who serves it no more", do(t, y, api.Cmd{Kind: api.CmDelete, Time: 34, Receipt: got.Got[0].Receipt}), api.Reply{Err: api.ErrMoved})
	wantReply(t, "a delete", do(t, x, api.Cmd{Kind: api.CmDelete, Time: 34, Receipt: got.Got[0].Receipt}), api.Reply{})
	wantReply(t, "the next number", do(t, x, api.Cmd{Kind: api.CmSend, Time: 35, Group: "g", Body: "d"}), api.Reply{Seq: 2})
}
