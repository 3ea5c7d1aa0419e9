package node_test

import (
	"fmt"
	"maps"
	"math/rand/v2"
	"slices"
	"testing"

	"raceway/api"
	"raceway/chart"
	"raceway/crc"
	"raceway/node"
	"raceway/paxos"
	"raceway/shard"
	"raceway/wire"
)

// plain is a node in the document's words: its replicas are paxos's, and its machines the layers' own.
type plain struct {
	c        api.NodeConf
	replicas []*paxos.Replica
	charts   *chart.Machine
	shards   []*shard.Shard // by groups; of group 0 none
	written  [][]string
	waits    map[[3]int]bool
	done     [][]api.Done
	down     bool
}

func plainOf(c api.NodeConf) *plain {
	p := &plain{c: c}
	for range groupsOf(c) {
		r, _ := paxos.New(api.PaxosConf{Id: c.Id, Nodes: c.Nodes, Timeout: c.Timeout, Per: c.Per})
		p.replicas, p.written = append(p.replicas, r), append(p.written, nil)
	}
	p.begin()
	return p
}

func (p *plain) begin() {
	p.charts, _ = chart.New(p.c.Shards)
	first, _ := chart.First(p.c.Shards)
	p.shards = make([]*shard.Shard, len(p.replicas))
	p.done = make([][]api.Done, len(p.replicas))
	p.waits = map[[3]int]bool{}
	for g := range p.replicas {
		p.shards[g], _ = shard.New(p.c.Queues, chart.Ranges(first, g))
		p.load(g, p.written[g])
	}
	p.shards[0] = nil
}

// load takes over what a dump has, and tells whether it is one with more slots.
func (p *plain) load(g int, data []string) bool {
	if g == 0 {
		m, e := chart.Revive(data)
		if e != api.OK || m.Slots() <= p.charts.Slots() {
			return false
		}
		p.charts = m
		return true
	}
	s, e := shard.Load(p.c.Queues, data)
	if e != api.OK || s.Slots() <= p.shards[g].Slots() {
		return false
	}
	p.shards[g] = s
	return true
}

func (p *plain) slots(g int) int {
	if g == 0 {
		return p.charts.Slots()
	}
	return p.shards[g].Slots()
}

func (p *plain) dump(g int) ([]string, api.Errno) {
	if g == 0 {
		return p.charts.Dump()
	}
	return p.shards[g].Dump()
}

func (p *plain) applyValue(g int, value []byte) api.Done {
	if g == 0 {
		return p.charts.Apply(value)
	}
	return p.shards[g].Apply(value)
}

func (p *plain) writeDown(g int) {
	data, e := p.dump(g)
	if e != api.OK {
		return
	}
	p.written[g] = data
	p.replicas[g].Trim(p.slots(g))
}

func (p *plain) apply(g int) []api.Packet {
	var out []api.Packet
	r := p.replicas[g]
	for _, value := range r.Chosen(p.slots(g)) {
		d := p.applyValue(g, value)
		p.done[g] = append(p.done[g], d)
		key := [3]int{g, d.Cmd.Client, d.Cmd.Num}
		if p.waits[key] {
			delete(p.waits, key)
			out = append(out, answer(p.c.Id, g, d.Cmd.Client, d.Cmd.Num, d.Reply))
		}
	}
	if p.c.Every > 0 && p.slots(g) >= p.c.Every+r.Base() {
		p.writeDown(g)
	}
	return out
}

func (p *plain) wrap(g int, l []api.Msg) []api.Packet {
	var out []api.Packet
	for _, m := range l {
		out = append(out, api.Packet{Kind: api.PkPaxos, From: p.c.Id, To: m.To, Group: g, Msg: m})
	}
	return out
}

func (p *plain) tick() []api.Packet {
	var out []api.Packet
	if p.down {
		return nil
	}
	for g, r := range p.replicas {
		out = append(out, p.wrap(g, r.Tick())...)
		out = append(out, p.apply(g)...)
	}
	return out
}

func (p *plain) recv(x api.Packet, now int) []api.Packet {
	if p.down || x.To != p.c.Id || x.Group < 0 || x.Group >= len(p.replicas) || now < 0 || now > maxTime {
		return nil
	}
	r := p.replicas[x.Group]
	back := api.Packet{From: p.c.Id, To: x.From, Group: x.Group}
	switch {
	case x.Kind == api.PkPaxos:
		out := p.wrap(x.Group, r.Recv(x.Msg))
		if x.Msg.Kind == api.MsBehind && x.From != p.c.Id && x.From >= 0 && x.From < p.c.Nodes && x.Msg.Slot > r.Prefix() {
			back.Kind = api.PkPull
			out = append(out, back)
		}
		return append(out, p.apply(x.Group)...)
	case x.Kind == api.PkAsk && x.From < 0 && x.Cmd.Client > 0 && x.Cmd.Client+x.From == 0 && x.Cmd.Num > 0:
		return p.ask(x.Group, x.Cmd, now)
	case x.Kind == api.PkPull && x.From >= 0 && p.slots(x.Group) > 0:
		back.Kind = api.PkSnap
		back.Data, _ = p.dump(x.Group)
		return []api.Packet{back}
	case x.Kind == api.PkSnap && p.load(x.Group, x.Data):
		r.Install(p.slots(x.Group))
		p.writeDown(x.Group)
		return p.apply(x.Group)
	case x.Kind == api.PkMap && x.From < 0:
		back.Kind, back.Chart = api.PkChart, p.charts.Chart()
		return []api.Packet{back}
	}
	return nil
}

func (p *plain) ask(g int, cmd api.Cmd, now int) []api.Packet {
	r := p.replicas[g]
	refuse := func(r api.Reply) []api.Packet {
		return []api.Packet{answer(p.c.Id, g, cmd.Client, cmd.Num, r)}
	}
	if r.Role() != api.RoLeader {
		return refuse(api.Reply{Err: api.ErrLeader, N: 1 + r.Leader()})
	}
	cmd.Time = now
	value, e := wire.Cmd(cmd)
	if e != api.OK {
		return refuse(api.Reply{Err: e})
	}
	_, out, e := r.Propose(value)
	if e != api.OK {
		return refuse(api.Reply{Err: e})
	}
	p.waits[[3]int{g, cmd.Client, cmd.Num}] = true
	return append(p.wrap(g, out), p.apply(g)...)
}

func (p *plain) crash(keep, flip int) api.Errno {
	first := api.OK
	for _, r := range p.replicas {
		if e := r.Crash(keep, flip); first == api.OK {
			first = e
		}
	}
	p.down = p.down || first == api.OK
	return first
}

func (p *plain) restart() api.Errno {
	if !p.down {
		return api.ErrState
	}
	for _, r := range p.replicas {
		r.Restart()
	}
	p.down = false
	p.begin()
	return api.OK
}

func (p *plain) picture() picture {
	x := picture{down: p.down}
	if !p.down {
		x.chart = p.charts.Chart()
	}
	for g, r := range p.replicas {
		one := ofGroup{
			role: r.Role(), ballot: r.Ballot(), leader: r.Leader(), prefix: r.Prefix(), base: r.Base(), chosen: r.Chosen(r.Base()),
			promised: r.Store().Promised(), slots: r.Store().Slots(), records: r.Store().Log().Len(),
			leads: r.Role() == api.RoLeader, disk: framed(p.written[g]), diskDown: p.down,
		}
		if !p.down {
			one.done = p.done[g]
		}
		if !p.down && p.slots(g) > 0 {
			one.dump, _ = p.dump(g)
		}
		x.groups = append(x.groups, one)
	}
	return x
}

// town is nodes, what is under way, and clients who ask whomever they like.
type town struct {
	t      *testing.T
	rng    *rand.Rand
	now    int
	nodes  []*node.Node
	plains []*plain // as the nodes; none, if they are not held against these
	bag    []api.Packet
	nums   [8]int             // what each client asked last
	last   [8]api.Packet      // and how
	got    []api.Receipt      // of deliveries
	frozen []api.Reply        // by which something may be imported
	done   []map[int]api.Done // by groups: what anybody ever did at a slot
	slots  [][]int            // by nodes and groups: how many were done when it was looked at last
	kinds  map[int]int        // how often which packets were delivered
}

const mostUnderWay = 400

func pick[T any](rng *rand.Rand, l ...T) T { return l[rng.IntN(len(l))] }

func newTown(t *testing.T, rng *rand.Rand, nodes int, change func(*api.NodeConf), isHeld bool) *town {
	t.Helper()
	w := &town{t: t, rng: rng, kinds: map[int]int{}}
	for id := range nodes {
		conf := confOf(id, nodes)
		change(&conf)
		w.nodes = append(w.nodes, newNode(t, conf))
		if isHeld {
			w.plains = append(w.plains, plainOf(conf))
		}
		w.slots = append(w.slots, make([]int, groupsOf(conf)))
	}
	for range w.slots[0] {
		w.done = append(w.done, map[int]api.Done{})
	}
	return w
}

// send puts what a node told into the bag; what came to clients they remember.
func (w *town) send(id int, l []api.Packet) {
	w.t.Helper()
	for _, p := range l {
		if p.From != id {
			w.t.Errorf("node %d tells %s", id, brief(p))
		}
		if p.To >= 0 {
			// Somebody may have pulled who is no node here.
			if p.To < len(w.nodes) {
				w.bag = append(w.bag, p)
			}
			continue
		}
		for _, g := range p.Reply.Got {
			w.got = append(w.got, g.Receipt)
		}
		if len(p.Reply.Data) > 0 && len(p.Reply.About) == 1 {
			w.frozen = append(w.frozen, p.Reply)
		}
	}
	// Of too many the oldest ones are lost.
	w.bag = w.bag[max(0, len(w.bag)-mostUnderWay):]
	w.look(id)
}

// look holds what a node has done against what anybody ever did.
func (w *town) look(id int) {
	w.t.Helper()
	for g := range w.done {
		for _, d := range w.nodes[id].Done(g, w.slots[id][g]) {
			if d.Slot < w.slots[id][g] {
				w.t.Errorf("node %d, group %d: slot %d is told behind %d", id, g, d.Slot, w.slots[id][g])
			}
			if old, has := w.done[g][d.Slot]; has && !same(old, d) {
				w.t.Errorf("group %d, slot %d: node %d did\n%s, and another one\n%s", g, d.Slot, id, brief(d), brief(old))
			}
			w.done[g][d.Slot] = copyOf(d)
			w.slots[id][g] = d.Slot + 1
		}
	}
}

func (w *town) tick(id int) {
	w.t.Helper()
	l := tick(w.nodes[id])
	if w.plains != nil {
		wantPackets(w.t, fmt.Sprint("Tick of node ", id), l, w.plains[id].tick()...)
	}
	w.send(id, l)
}

func (w *town) recv(id int, p api.Packet, now int) {
	w.t.Helper()
	w.kinds[p.Kind]++
	l := recv(w.t, w.nodes[id], p, now)
	if w.plains != nil {
		wantPackets(w.t, fmt.Sprintf("node %d: %s", id, brief(p)), l, w.plains[id].recv(copyOf(p), now)...)
	}
	w.send(id, l)
}

func (w *town) crash(id int) {
	w.t.Helper()
	keep, flip := pick(w.rng, -1, 0, 3, w.rng.IntN(60)), w.rng.IntN(200)-20
	e := w.nodes[id].Crash(keep, flip)
	if w.plains != nil {
		wantError(w.t, "Crash", e, w.plains[id].crash(keep, flip))
	}
	w.look(id)
}

func (w *town) restart(id int) {
	w.t.Helper()
	e := w.nodes[id].Restart()
	if w.plains != nil {
		wantError(w.t, "Restart", e, w.plains[id].restart())
	}
	if e == api.OK {
		clear(w.slots[id])
	}
	w.look(id)
}

// someName is a group's name, of either shard at first.
func (w *town) someName() string { return fmt.Sprint("name ", w.rng.IntN(6)) }

// someCmd is a command of any kind.
func (w *town) someCmd() api.Cmd {
	rng := w.rng
	c := api.Cmd{Kind: rng.IntN(8), Queue: pick(rng, 0, 0, 0, 1, 2), Max: rng.IntN(4), Secs: pick(rng, 0, 5, 40), Group: w.someName(), Body: fmt.Sprint("body ", rng.IntN(100))}
	if rng.IntN(3) == 0 {
		c.Kind = api.CmSend
	}
	c.Attempt = pick(rng, "", "p", "q")
	if len(w.got) > 0 {
		c.Receipt = pick(rng, w.got...)
	}
	lo := rng.IntN(span)
	c.Range = from(lo, lo+1+rng.IntN(span-lo))
	switch rng.IntN(12) {
	case 0:
		c.Kind = api.CmRelease
	case 1:
		c.Kind = api.CmImport
		c.Data = []string{"any"}
	case 2, 3:
		c.Kind, c.To = api.CmChart, rng.IntN(8)
	}
	if n := len(w.frozen); n > 0 && rng.IntN(4) == 0 {
		r := w.frozen[n-1]
		c.Kind, c.Range, c.Data = api.CmImport, r.About[0], r.Data
	}
	return c
}

// someAsk is what a client asks now: something new, or the same once more, of anybody.
func (w *town) someAsk() api.Packet {
	rng := w.rng
	i := rng.IntN(len(w.nums))
	p := w.last[i]
	if w.nums[i] == 0 || rng.IntN(3) > 0 {
		w.nums[i]++
		cmd := w.someCmd()
		cmd.Client, cmd.Num = 1+i, w.nums[i]
		p = askOf(0, rng.IntN(len(w.done)), cmd)
	} else if rng.IntN(4) == 0 {
		p.Group = rng.IntN(len(w.done))
	}
	p.To = w.likely(p.Group)
	w.last[i] = p
	return p
}

// likely is a node that may lead a group.
func (w *town) likely(g int) int {
	for id, n := range w.nodes {
		if n.Leads(g) && w.rng.IntN(5) > 0 {
			return id
		}
	}
	return w.rng.IntN(len(w.nodes))
}

// someOdd is a packet that a node may not expect.
func (w *town) someOdd() api.Packet {
	rng := w.rng
	id := rng.IntN(len(w.nodes))
	p := api.Packet{Kind: pick(rng, api.PkMap, api.PkMap, api.PkPull, api.PkAsk, api.PkSnap, api.PkPaxos), From: rng.IntN(9) - 4, To: id, Group: rng.IntN(6) - 1}
	p.Cmd = w.someCmd()
	p.Cmd.Client, p.Cmd.Num = rng.IntN(5)-1, rng.IntN(5)-1
	if p.Kind == api.PkPaxos {
		p.Msg = api.Msg{Kind: 1 + rng.IntN(9), From: p.From, To: id, Ballot: 0, Slot: rng.IntN(3)}
		if p.Msg.Kind == api.MsLearn {
			// It has no votes: nothing that nobody proposed may be learned.
			p.Msg.Kind = api.MsBehind
		}
	}
	return p
}

// odds says how often what happens, in a thousand.
type odds struct{ lose, double, crash, tick, ask, odd int }

func (w *town) step(o odds) {
	w.t.Helper()
	rng := w.rng
	id := rng.IntN(len(w.nodes))
	w.now += rng.IntN(2)
	switch n := rng.IntN(1000); {
	case n < o.crash && !w.nodes[id].Down():
		w.crash(id)
	case n < 4*o.crash:
		w.restart(id)
	case n < 4*o.crash+o.tick:
		w.tick(id)
	case n < 4*o.crash+o.tick+o.ask:
		p := w.someAsk()
		w.recv(p.To, p, w.now)
	case n < 4*o.crash+o.tick+o.ask+o.odd:
		p := w.someOdd()
		w.recv(p.To, p, pick(rng, w.now, w.now, -1, maxTime+1))
	case len(w.bag) > 0:
		w.deliver(rng.IntN(len(w.bag)), o)
	}
}

func (w *town) deliver(at int, o odds) {
	w.t.Helper()
	p := w.bag[at]
	if w.rng.IntN(1000) >= o.double {
		w.bag = slices.Delete(w.bag, at, at+1)
	}
	if w.rng.IntN(1000) >= o.lose {
		w.recv(p.To, p, w.now)
	}
}

// check holds all that the nodes tell against the plain ones.
func (w *town) check(name string) {
	w.t.Helper()
	for id, p := range w.plains {
		want(w.t, fmt.Sprint(name, ", node ", id), pictureOf(w.nodes[id]), p.picture())
	}
}

// heal brings all back, and delivers all in order, until all have done the same and know it: whether they do, within so many rounds.
func (w *town) heal(rounds int) bool {
	w.t.Helper()
	for id, n := range w.nodes {
		if n.Down() {
			w.restart(id)
		}
	}
	for range rounds {
		for id := range w.nodes {
			w.tick(id)
			for n := 0; len(w.bag) > 0 && n < 10000; n++ {
				w.deliver(0, odds{})
			}
		}
		if w.agree() {
			return true
		}
	}
	return false
}

// agree tells whether each group has one who leads it, and all nodes have applied as much: then their machines have the same.
func (w *town) agree() bool {
	w.t.Helper()
	for g := range w.done {
		leads := 0
		for _, n := range w.nodes {
			if n.Leads(g) {
				leads++
			}
			if n.Replica(g).Prefix() != w.nodes[0].Replica(g).Prefix() {
				return false
			}
		}
		if leads != 1 {
			return false
		}
	}
	for g := range w.done {
		for id, n := range w.nodes {
			want(w.t, fmt.Sprintf("node %d, group %d", id, g), dumpOf(n, g), dumpOf(w.nodes[0], g))
		}
	}
	return true
}

// P17.2 to P17.5: whatever happens, a node tells and becomes what the document says.
func TestSomeRuns(t *testing.T) {
	kinds := map[int]int{}
	for seed := range 120 {
		rng := rand.New(rand.NewPCG(uint64(seed), 17))
		every, timeout, per := pick(rng, 0, 1, 2, 7), 1+rng.IntN(4), pick(rng, 1, 8, 1024)
		w := newTown(t, rng, pick(rng, 1, 2, 3, 3), func(c *api.NodeConf) { c.Every, c.Timeout, c.Per = every, timeout, per }, true)
		o := odds{lose: rng.IntN(200), double: rng.IntN(200), crash: pick(rng, 0, 2, 10), tick: 30 + rng.IntN(100), ask: 150, odd: 40}
		for i := range 700 {
			w.step(o)
			if i%50 == 0 {
				w.check("a step")
			}
			if t.Failed() {
				t.Fatalf("seed %d, step %d", seed, i)
			}
		}
		w.check("all steps")
		for k, n := range w.kinds {
			kinds[k] += n
		}
	}
	for kind := api.PkPaxos; kind <= api.PkSnap; kind++ {
		if kind != api.PkReply && kind != api.PkChart && kinds[kind] < 100 {
			t.Errorf("packets of kind %d: %d", kind, kinds[kind])
		}
	}
	t.Log(kinds)
}

// P17.6: whatever is delivered, lost and doubled, and whoever crashes when: who has applied so many slots has done the same, and answered the same.
func TestNodesAgree(t *testing.T) {
	slots, moved, healed, snaps := 0, 0, 0, 0
	const runs = 150
	for seed := range runs {
		rng := rand.New(rand.NewPCG(uint64(seed), 176))
		every, timeout := pick(rng, 0, 1, 3, 10), 1+rng.IntN(3)
		w := newTown(t, rng, pick(rng, 1, 2, 3, 3, 5), func(c *api.NodeConf) {
			c.Timeout, c.Per = timeout, 1024
			// Not all of them write down as often.
			c.Every = every + every*c.Id
		}, false)
		o := odds{lose: rng.IntN(200), double: rng.IntN(200), crash: pick(rng, 0, 2, 8), tick: 30 + rng.IntN(100), ask: 200}
		for range 1500 {
			w.step(o)
			if t.Failed() {
				t.Fatalf("seed %d", seed)
			}
		}
		if w.heal(80) {
			healed++
		}
		if t.Failed() {
			t.Fatalf("seed %d, healing", seed)
		}
		w.checkOnce()
		for _, l := range w.done {
			slots += len(l)
		}
		moved += len(w.frozen)
		snaps += w.kinds[api.PkSnap]
	}
	t.Logf("%d of %d runs healed; %d slots, %d freezes, %d snaps", healed, runs, slots, moved, snaps)
	if healed < runs || slots < 20*runs || moved < runs/2 || snaps < runs {
		t.Errorf("%d of %d runs healed; %d slots, %d freezes, %d snaps", healed, runs, slots, moved, snaps)
	}
}

// checkOnce checks that a client's number was done once in each group, but where it was told that it is elsewhere.
func (w *town) checkOnce() {
	w.t.Helper()
	for g := 1; g < len(w.done); g++ {
		done := map[[2]int]int{}
		for _, slot := range slices.Sorted(maps.Keys(w.done[g])) {
			d := w.done[g][slot]
			key := [2]int{d.Cmd.Client, d.Cmd.Num}
			if d.Fresh && d.Cmd.Client > 0 && d.Reply.Err != api.ErrMoved {
				done[key]++
			}
			if done[key] > 1 {
				w.t.Errorf("group %d, slot %d: client %d, number %d is done once more", g, slot, d.Cmd.Client, d.Cmd.Num)
			}
		}
	}
}

// Words: what is written down is a row of frames, one a text, as crc has them.
func TestFrames(t *testing.T) {
	c := elected(t, 1, func(c *api.NodeConf) { c.Every = 1 })
	c.sendSome(1, 2)
	data, _ := c.nodes[0].Shard(1).Dump()
	if b := c.nodes[0].Disk(1).Kept(); !slices.Equal(b, framed(data)) || len(data) < 2 {
		t.Errorf("%d texts: %x", len(data), b)
	}
	end, e := crc.Good(c.nodes[0].Disk(1).Kept())
	if wantError(t, "Good", e, api.OK); end == 0 {
		t.Error("there are no frames")
	}
}
