package shard_test

import (
	"fmt"
	"math/rand/v2"
	"slices"
	"testing"

	"raceway/api"
	"raceway/queue"
	"raceway/session"
	"raceway/shard"
)

// plain is a shard in the document's words, on an engine and a table of its own.
type plain struct {
	slots, now int
	x          *queue.Engine
	table      *session.Table
}

func newPlain(confs []api.Queue, served []api.Range) *plain {
	x, _ := queue.New(confs, served)
	return &plain{x: x, table: session.New()}
}

// apply applies a command, or, without one, what is none.
func (p *plain) apply(c *api.Cmd) api.Done {
	p.slots++
	if c == nil {
		return api.Done{Slot: p.slots - 1, Time: p.now}
	}
	p.now = max(p.now, c.Time)
	done := api.Done{Slot: p.slots - 1, Time: p.now, Cmd: *c}
	done.Cmd.Time = p.now
	asks := c.Client > 0 && c.Num > 0
	switch last := p.table.Last(c.Client); {
	case asks && c.Num == last:
		done.Reply, _, _ = p.table.Look(c.Client, c.Num)
		return done
	case asks && c.Num < last:
		done.Reply.Err = api.ErrOld
		return done
	}
	done.Fresh = true
	done.Reply = p.do(done.Cmd)
	if asks && done.Reply.Err != api.ErrMoved {
		p.table.Note(c.Client, c.Num, done.Reply)
	}
	return done
}

func (p *plain) do(c api.Cmd) api.Reply {
	switch {
	case c.Kind == api.CmFreeze:
		return p.freeze(c.Range)
	case c.Kind == api.CmImport:
		return p.bring(c)
	case c.Kind == api.CmChart:
		return api.Reply{Err: api.ErrArg}
	case c.Kind == api.CmNothing || c.Kind == api.CmRelease:
		return api.Reply{}
	}
	return p.x.Do(c, p.x.Served())
}

func (p *plain) freeze(r api.Range) api.Reply {
	groups, e := p.x.Copy().Cut(r)
	if e != api.OK {
		return api.Reply{Err: e}
	}
	sessions := p.table.Dump()
	data := slices.Concat([]string{num(len(sessions))}, sessions, groups)
	long := slices.ContainsFunc(data, func(s string) bool { return len(s) > maxText })
	if long || len(data) > maxItems || importSize(r, data) > maxImport {
		return api.Reply{Err: api.ErrLong}
	}
	p.x.Cut(r)
	return api.Reply{Data: data, About: list(r)}
}

// bring takes Data whose first text, if there is one, is a number below 128.
func (p *plain) bring(c api.Cmd) api.Reply {
	x, table := p.x.Copy(), p.table.Copy()
	if len(c.Data) > 0 && len(c.Data[0]) == 1 && int(c.Data[0][0]) < len(c.Data) {
		n := 1 + int(c.Data[0][0])
		if x.Paste(c.Range, c.Data[n:]) == api.OK && table.Merge(c.Data[1:n]) == api.OK {
			p.x, p.table = x, table
			return api.Reply{About: list(c.Range)}
		}
	}
	return api.Reply{Err: api.ErrArg}
}

func (p *plain) picture() picture {
	return picture{p.slots, p.now, p.x.Served(), groupsOf(p.x), sessionsOf(p.table)}
}

// pair is two replicas of a shard, and what they must be.
type pair struct {
	a, b *shard.Shard
	p    *plain
}

// parcel is what a freeze took out, and no import brought in yet.
type parcel struct {
	r    api.Range
	data []string
}

// run lets some shards go their ways by chance, and moves ranges among them.
type run struct {
	t       *testing.T
	random  *rand.Rand
	pairs   []pair
	parcels []parcel
	clients int
	now     int
	names   []string
}

func newRun(t *testing.T, seed, shards, clients int) *run {
	r := &run{t: t, random: rand.New(rand.NewPCG(uint64(seed), uint64(clients))), clients: clients, names: namesIn(whole, 7)}
	for i := range shards {
		served := list(from(span*i/shards, span*(i+1)/shards))
		r.pairs = append(r.pairs, pair{newShard(t, withDead(2), served), newShard(t, withDead(2), served), newPlain(withDead(2), served)})
	}
	return r
}

func (r *run) pick(n int) int { return r.random.IntN(n) }

// who gives a client and a number that is next, the same, old, or far ahead; or nobody, or no number.
func (r *run) who(p *plain) (client, num int) {
	client = r.pick(r.clients + 1)
	switch r.pick(12) {
	case 0:
		return client, 0
	case 1, 2:
		return client, p.table.Last(client)
	case 3:
		return client, max(0, p.table.Last(client)-1)
	case 4:
		return client, p.table.Last(client) + 5
	}
	return client, p.table.Last(client) + 1
}

// part gives a range that is likely to be served by a shard.
func (r *run) part(p *plain) api.Range {
	served := p.x.Served()
	if len(served) == 0 || r.pick(8) == 0 {
		lo := r.pick(span)
		return from(lo, lo+1+r.pick(span-lo))
	}
	s := served[r.pick(len(served))]
	if r.pick(3) == 0 {
		return s
	}
	lo := s.Lo + r.pick(s.Hi-s.Lo)
	return from(lo, lo+1+r.pick(s.Hi-lo))
}

// receipt gives one of a message that there is, if there is one.
func (r *run) receipt(p *plain, queue int, name string) api.Receipt {
	x := api.Receipt{Queue: queue, Group: name, Seq: 1, Count: 1}
	if g, _ := p.x.Group(queue, name); len(g.Kept) > 0 {
		m := g.Kept[r.pick(len(g.Kept))]
		x.Seq, x.Count = m.Seq, m.Count
	}
	return x
}

// cmd gives a command to a shard.
func (r *run) cmd(p *plain) api.Cmd {
	name := r.names[r.pick(len(r.names))]
	c := api.Cmd{Kind: r.pick(maxKinds), Queue: r.pick(3), Group: name, Body: fmt.Sprint("body ", r.pick(30)), Max: 1 + r.pick(5), Secs: r.pick(20)}
	c.Client, c.Num = r.who(p)
	r.now += r.pick(5)
	c.Time = max(0, r.now-r.pick(8))
	c.Receipt = r.receipt(p, r.pick(3), name)
	switch {
	case c.Kind == api.CmFreeze:
		c.Range = r.part(p)
	case c.Kind == api.CmImport:
		c.Range, c.Data = r.parcel(p)
	case r.pick(2) == 0:
		c.Kind = 1 + r.pick(3)
	}
	if r.pick(3) == 0 {
		c.Token, c.Attempt = fmt.Sprint("t", r.pick(5)), fmt.Sprint("p", r.pick(2))
	}
	if r.pick(40) == 0 {
		c.Queue, c.Max = r.pick(5), r.pick(12)
	}
	return c
}

// parcel gives what was frozen somewhere, or something that no import takes.
func (r *run) parcel(p *plain) (api.Range, []string) {
	if len(r.parcels) == 0 || r.pick(5) == 0 {
		return r.part(p), [][]string{nil, {"\x00"}, {"\x05"}, {"\x00", "?"}, {"\x01", "?"}, {"?"}}[r.pick(6)]
	}
	x := r.parcels[r.pick(len(r.parcels))]
	data := slices.Clone(x.data)
	switch r.pick(6) {
	case 0:
		at := r.pick(len(data))
		data[at] = data[at][:len(data[at])/2]
	case 1:
		return from(x.r.Lo, max(x.r.Lo+1, x.r.Hi-3000)), data
	}
	return x.r, data
}

// deliver applies a value to the replicas and to what they must be.
func (r *run) deliver(x *pair, c *api.Cmd) api.Done {
	r.t.Helper()
	v := []byte{0xff}
	if c != nil {
		v = value(*c)
	}
	want := x.p.apply(c)
	wantDone(r.t, brief(c), apply(r.t, x.a, v), want)
	wantDone(r.t, brief(c)+", of the other replica", apply(r.t, x.b, v), want)
	return want
}

func (r *run) note(d api.Done) {
	if !d.Fresh || d.Reply.Err != api.OK {
		return
	}
	if d.Cmd.Kind == api.CmFreeze {
		r.parcels = append(r.parcels, parcel{d.Cmd.Range, d.Reply.Data})
	}
	if d.Cmd.Kind == api.CmImport {
		r.parcels = slices.DeleteFunc(r.parcels, func(x parcel) bool { return x.r == d.Cmd.Range })
	}
}

// reload lets a replica be what its dump, or a copy, makes of it.
func (r *run) reload(x *pair) {
	if r.pick(2) == 0 {
		x.a = x.b.Copy()
		return
	}
	k, e := load(r.t, withDead(2), dump(r.t, x.a))
	wantError(r.t, "Load in a run", e, api.OK)
	x.a = k
}

func (r *run) step() {
	x := &r.pairs[r.pick(len(r.pairs))]
	switch r.pick(12) {
	case 0:
		r.reload(x)
	case 1:
		r.deliver(x, nil)
	default:
		c := r.cmd(x.p)
		r.note(r.deliver(x, &c))
		if r.pick(6) == 0 {
			r.deliver(x, &c)
		}
	}
	wantPicture(r.t, "in a run", x.a, x.p.picture())
	wantPicture(r.t, "the other replica in a run", x.b, x.p.picture())
}

// P14.2, P14.6: runs of one shard and of several, with copies and dumps on the way, held against the document's words.
func TestRuns(t *testing.T) {
	for _, c := range []struct{ shards, clients, steps int }{{1, 2, 150}, {1, 6, 250}, {2, 4, 300}, {3, 5, 300}} {
		for seed := range 25 {
			r := newRun(t, seed, c.shards, c.clients)
			for i := range c.steps {
				r.step()
				if t.Failed() {
					t.Fatalf("run %+v, seed %d, step %d", c, seed, i)
				}
			}
		}
	}
}

// story gives commands of some clients, each with its own numbers, rising.
func story(random *rand.Rand, n int) []api.Cmd {
	names := namesIn(whole, 4)
	last := map[int]int{}
	var l []api.Cmd
	for i := range n {
		client := 1 + random.IntN(5)
		last[client]++
		name := names[random.IntN(len(names))]
		c := api.Cmd{Kind: 1 + random.IntN(6), Client: client, Num: last[client], Time: i, Group: name, Body: fmt.Sprint(i), Max: 2, Secs: 6}
		c.Receipt = api.Receipt{Group: name, Seq: 1 + random.IntN(4), Count: 1}
		l = append(l, c)
	}
	return l
}

// P14.6: a command that is chosen again and again, at once or much later, is done once: all is as if it had been chosen once.
func TestChosenAgainIsDoneOnce(t *testing.T) {
	for seed := range 40 {
		random := rand.New(rand.NewPCG(uint64(seed), 14))
		once, often := newShard(t, withDead(2), whole), newShard(t, withDead(2), whole)
		var done []api.Done
		for _, c := range story(random, 60) {
			d := once.Apply(value(c))
			got := often.Apply(value(c))
			if !got.Fresh || !sameReply(got.Reply, d.Reply) {
				t.Fatalf("seed %d: %s, not %s", seed, brief(got), brief(d))
			}
			done = append(done, d)
			for range random.IntN(4) {
				old := done[random.IntN(len(done))]
				again := often.Apply(value(old.Cmd))
				latest := often.Sessions().Last(old.Cmd.Client) == old.Cmd.Num
				if again.Fresh || latest && !sameReply(again.Reply, old.Reply) || !latest && !sameReply(again.Reply, api.Reply{Err: api.ErrOld}) {
					t.Fatalf("seed %d: chosen again: %s, it was %s", seed, brief(again), brief(old))
				}
			}
			a, b := pictureOf(once), pictureOf(often)
			a.slots = b.slots
			if !a.same(b) {
				t.Fatalf("seed %d: it has\n%s, not\n%s", seed, brief(b), brief(a))
			}
		}
	}
}

// P14.6: two shards that apply the same values have, and answer, the same; times never fall, whatever the values have.
func TestSameValues(t *testing.T) {
	for seed := range 20 {
		random := rand.New(rand.NewPCG(uint64(seed), 15))
		a, b := newShard(t, withDead(1), low), newShard(t, withDead(1), low)
		last := 0
		for _, c := range story(random, 120) {
			c.Time = random.IntN(400)
			v := value(c)
			if random.IntN(9) == 0 {
				v = v[:random.IntN(len(v))]
			}
			d := a.Apply(v)
			wantDone(t, "the other one", b.Apply(slices.Clone(v)), d)
			if d.Time < last || a.Now() != d.Time {
				t.Fatalf("seed %d: the time was %d, and is %d", seed, last, d.Time)
			}
			last = d.Time
		}
		wantPicture(t, "the other one", b, pictureOf(a))
		wantTexts(t, "the other one", dump(t, b), dump(t, a))
	}
}

// P14.6: a range frozen here and imported there: the same numbers are answered there as they were here, and groups go on.
func TestMovesAreNotSeen(t *testing.T) {
	for seed := range 30 {
		random := rand.New(rand.NewPCG(uint64(seed), 16))
		here, there, unmoved := newShard(t, withDead(2), whole), newShard(t, withDead(2), nil), newShard(t, withDead(2), whole)
		l := story(random, 120)
		half := 20 + random.IntN(60)
		for _, c := range l[:half] {
			wantDone(t, "ahead of the move", here.Apply(value(c)), unmoved.Apply(value(c)))
		}
		asked := pictureOf(here).sessions
		told := did(t, here, api.Cmd{Kind: api.CmFreeze, Client: 60, Num: 1, Time: half, Range: whole[0]})
		did(t, there, api.Cmd{Kind: api.CmImport, Client: 60, Num: 2, Time: half, Range: whole[0], Data: told.Data})
		for _, x := range asked {
			d := do(t, there, api.Cmd{Kind: api.CmSend, Client: x.client, Num: x.num, Group: "g", Body: "again"})
			if d.Fresh || !sameReply(d.Reply, x.reply) {
				t.Fatalf("seed %d: asked again: %s, not %s", seed, brief(d), brief(x))
			}
		}
		for _, c := range l[half:] {
			d := unmoved.Apply(value(c))
			if moved := here.Apply(value(c)); len(c.Group) > 0 && c.Kind != api.CmReceive && c.Kind != api.CmPurge && moved.Reply.Err != api.ErrMoved {
				t.Fatalf("seed %d: here there is still something: %s", seed, brief(moved))
			}
			if got := there.Apply(value(c)); !sameReply(got.Reply, d.Reply) || !got.Fresh {
				t.Fatalf("seed %d: there it is %s, not %s", seed, brief(got), brief(d))
			}
		}
		if a, b := pictureOf(there).groups, pictureOf(unmoved).groups; !slices.EqualFunc(a, b, sameGroup) {
			t.Fatalf("seed %d: there are %s, not %s", seed, brief(a), brief(b))
		}
	}
}
