package node_test

import (
	"fmt"
	"slices"
	"testing"

	"raceway/api"
	"raceway/ballot"
	"raceway/chart"
	"raceway/node"
	"raceway/shard"
)

// rightConfs has what a node may be made of, up to each limit.
func rightConfs() []api.NodeConf {
	var l []api.NodeConf
	for shards := 1; shards <= maxShards; shards++ {
		for spare := range maxShards - shards + 1 {
			l = append(l, api.NodeConf{Id: shards % 3, Nodes: 3, Shards: shards, Spare: spare, Timeout: 2, Per: 3, Every: spare, Queues: queues()})
		}
	}
	for _, every := range []int{0, 1, 499, 500} {
		l = append(l, api.NodeConf{Nodes: 1, Shards: 1, Timeout: 1, Per: 1, Every: every, Queues: queues()[1:]})
	}
	for nodes := 1; nodes <= 5; nodes++ {
		l = append(l, api.NodeConf{Id: nodes - 1, Nodes: nodes, Shards: 2, Timeout: 1000, Per: 1024, Queues: queues()})
	}
	return l
}

// firstDump is what a shard has at slot 0.
func firstDump(t *testing.T, c api.NodeConf, group int) []string {
	t.Helper()
	first, _ := chart.First(c.Shards)
	s, _ := shard.New(c.Queues, chart.Ranges(first, group))
	data, e := s.Dump()
	wantError(t, "Dump", e, api.OK)
	return data
}

// P17.1, P17.4: a node that is up, with a replica, a machine and a disk of each group; it leads none, and has done nothing.
func TestNew(t *testing.T) {
	for _, c := range rightConfs() {
		name := fmt.Sprintf("%+v", c)
		n := newNode(t, c)
		first, _ := chart.First(c.Shards)
		want(t, name+", its chart", n.Chart(), first)
		if n.Down() {
			t.Errorf("%s: it is down", name)
		}
		for g := range groupsOf(c) {
			r := n.Replica(g)
			if r == nil || r.Down() || r.Prefix() != 0 || n.Leads(g) || len(n.Done(g, 0)) != 0 || n.Disk(g) == nil || n.Disk(g).Down() || n.Disk(g).Size() != 0 {
				t.Errorf("%s: group %d is not a new one", name, g)
			}
			if g == 0 {
				continue
			}
			s := n.Shard(g)
			data, e := s.Dump()
			if e != api.OK || s.Slots() != 0 {
				t.Errorf("%s: shard %d: error %d, %d slots", name, g, int(e), s.Slots())
			}
			want(t, fmt.Sprint(name, ", shard ", g), data, firstDump(t, c, g))
			if isSpare := g > c.Shards; isSpare != (len(s.Engine().Served()) == 0) {
				t.Errorf("%s: shard %d serves %v", name, g, s.Engine().Served())
			}
		}
	}
}

// allOf has one number everywhere, and no queues.
func allOf(n int) api.NodeConf {
	return api.NodeConf{Id: n, Nodes: n, Shards: n, Spare: n, Timeout: n, Per: n, Every: n}
}

// P17.1: what the document refuses, by itself and with another fault.
func TestNewRefuses(t *testing.T) {
	wrong := map[string]func(*api.NodeConf){
		"Shards 0":                  func(c *api.NodeConf) { c.Shards = 0 },
		"Shards 7":                  func(c *api.NodeConf) { c.Shards, c.Spare = 7, 0 },
		"Shards 7, Spare -1":        func(c *api.NodeConf) { c.Shards, c.Spare = 7, -1 },
		"the least Shards":          func(c *api.NodeConf) { c.Shards = minInt },
		"the greatest Shards":       func(c *api.NodeConf) { c.Shards = maxInt },
		"Spare -1":                  func(c *api.NodeConf) { c.Spare = -1 },
		"Spare 5 of Shards 2":       func(c *api.NodeConf) { c.Spare = 5 },
		"Spare 1 of Shards 6":       func(c *api.NodeConf) { c.Shards, c.Spare = 6, 1 },
		"the least Spare":           func(c *api.NodeConf) { c.Spare = minInt },
		"the greatest Spare":        func(c *api.NodeConf) { c.Spare = maxInt },
		"Every -1":                  func(c *api.NodeConf) { c.Every = -1 },
		"Every 501":                 func(c *api.NodeConf) { c.Every = 501 },
		"the least Every":           func(c *api.NodeConf) { c.Every = minInt },
		"the greatest Every":        func(c *api.NodeConf) { c.Every = maxInt },
		"no Queues":                 func(c *api.NodeConf) { c.Queues = nil },
		"seven Queues":              func(c *api.NodeConf) { c.Queues = slices.Repeat(queues()[1:], 7) },
		"a Vis below 0":             func(c *api.NodeConf) { c.Queues[0].Vis = -1 },
		"a Keep of 0":               func(c *api.NodeConf) { c.Queues[1].Keep = 0 },
		"a Dead that there is not":  func(c *api.NodeConf) { c.Queues[0].Dead = 2 },
		"a Dead that is the queue":  func(c *api.NodeConf) { c.Queues[0].Dead = 0 },
		"a Max above 1000":          func(c *api.NodeConf) { c.Queues[0].Max = 1001 },
		"Nodes 0":                   func(c *api.NodeConf) { c.Nodes = 0 },
		"Nodes 6":                   func(c *api.NodeConf) { c.Nodes = 6 },
		"Id -1":                     func(c *api.NodeConf) { c.Id = -1 },
		"Id 3 of 3":                 func(c *api.NodeConf) { c.Id = 3 },
		"Timeout 0":                 func(c *api.NodeConf) { c.Timeout = 0 },
		"Timeout 1001":              func(c *api.NodeConf) { c.Timeout = 1001 },
		"Per 0":                     func(c *api.NodeConf) { c.Per = 0 },
		"Per 1025":                  func(c *api.NodeConf) { c.Per = 1025 },
		"all is the least number":   func(c *api.NodeConf) { *c = allOf(minInt) },
		"nothing is said":           func(c *api.NodeConf) { *c = api.NodeConf{} },
		"all is the greatest there": func(c *api.NodeConf) { *c = allOf(maxInt) },
	}
	for name, change := range wrong {
		for other, also := range wrong {
			c := confOf(1, 3)
			also(&c)
			if len(c.Queues) == 0 {
				c.Queues = queues()
			}
			change(&c)
			if n, e := node.New(c); e != api.ErrArg || n != nil {
				t.Errorf("%s, and %s: %v, error %d", name, other, n, int(e))
			}
		}
		c := confOf(1, 3)
		change(&c)
		if n, e := node.New(c); e != api.ErrArg || n != nil {
			t.Errorf("%s: %v, error %d", name, n, int(e))
		}
	}
}

// P17.1: its replicas are made of its Id, Nodes, Timeout and Per; P17.2: each one's messages, group by group.
func TestTick(t *testing.T) {
	for _, c := range rightConfs() {
		if c.Timeout > 10 || c.Nodes == 1 {
			continue
		}
		n := newNode(t, c)
		for i := range c.Timeout + c.Id {
			wantPackets(t, fmt.Sprint("Tick ", i), n.Tick())
		}
		own, _ := ballot.Make(1, c.Id)
		var should []api.Packet
		for g := range groupsOf(c) {
			for to := range c.Nodes {
				if to != c.Id {
					should = append(should, api.Packet{Kind: api.PkPaxos, From: c.Id, To: to, Group: g, Msg: api.Msg{Kind: api.MsPrepare, From: c.Id, To: to, Ballot: own}})
				}
			}
		}
		wantPackets(t, fmt.Sprintf("%+v stands", c), tick(n), should...)
		for g := range groupsOf(c) {
			if l := n.Replica(g).Store().Log(); l.Len() != 1 {
				t.Errorf("group %d has %d records", g, l.Len())
			}
		}
	}
}

// P17.1: Per is how many records a segment has.
func TestPer(t *testing.T) {
	for _, per := range []int{1, 2, 5} {
		c := elected(t, 1, func(c *api.NodeConf) { c.Per = per })
		c.sendSome(1, 9)
		l := c.nodes[0].Replica(1).Store().Log()
		if should := (l.Len() + per - 1) / per; l.Len() < 9 || len(l.Segments()) != should {
			t.Errorf("%d records in %d segments, not %d", l.Len(), len(l.Segments()), should)
		}
	}
}

// P17.2: a leader's Beats and Accepts, group by group, and what is still open in one of them.
func TestTickOfLeader(t *testing.T) {
	c := elected(t, 3, asItIs)
	own := c.nodes[0].Replica(2).Ballot()
	c.off = 1
	c.run(askOf(0, 2, send(4, 1, highName)))
	c.off = 0
	recv(t, c.nodes[0], askOf(0, 2, send(4, 2, highName)), 7)
	var should []api.Packet
	for g := range 4 {
		beat := api.Msg{Kind: api.MsBeat, Ballot: own}
		if g == 2 {
			beat.N = 1
		}
		l := []api.Msg{beat}
		if g == 2 {
			cmd := send(4, 2, highName)
			cmd.Time = 7
			l = append(l, api.Msg{Kind: api.MsAccept, Ballot: own, Slot: 1, Value: valueOf(cmd), N: 1})
		}
		for _, m := range l {
			for to := 1; to < 3; to++ {
				m.To = to
				should = append(should, api.Packet{Kind: api.PkPaxos, To: to, Group: g, Msg: m})
			}
		}
	}
	wantPackets(t, "Tick", tick(c.nodes[0]), should...)
}

// P17.2: what a Tick lets be chosen is applied in it: one that comes back alone proposes anew what it has accepted.
func TestTickApplies(t *testing.T) {
	c := elected(t, 1, asItIs)
	n := c.nodes[0]
	c.sendSome(1, 3)
	c.ask(2, send(5, 1, highName))
	was := [][]api.Done{n.Done(0, 0), n.Done(1, 0), n.Done(2, 0), n.Done(3, 0)}
	wantError(t, "Crash", n.Crash(0, 0), api.OK)
	wantError(t, "Restart", n.Restart(), api.OK)
	// Nobody waits any more.
	wantPackets(t, "Tick", n.Tick())
	for g := range 4 {
		want(t, fmt.Sprint("ahead, group ", g), n.Done(g, 0), nil)
	}
	wantPackets(t, "Tick", n.Tick())
	for g := range 4 {
		want(t, fmt.Sprint("group ", g), n.Done(g, 0), was[g])
	}
}

// P17.4: from each slot on, of each group.
func TestDone(t *testing.T) {
	c := elected(t, 3, asItIs)
	var all []api.Done
	for i := range 6 {
		c.now = 10 * i
		cmd := send(3, i+1, lowName)
		r := c.ask(1, cmd)
		cmd.Time = 10 * i
		all = append(all, api.Done{Slot: i, Time: 10 * i, Cmd: cmd, Reply: r, Fresh: true})
	}
	c.tick(0)
	for id, n := range c.nodes {
		for from, should := range map[int][]api.Done{minInt: all, -1: all, 0: all, 1: all[1:], 3: all[3:], 5: all[5:], 6: nil, 7: nil, maxInt: nil} {
			want(t, fmt.Sprintf("node %d, from %d", id, from), n.Done(1, from), should)
		}
		for _, g := range []int{0, 2, 3, -1, 4, minInt, maxInt} {
			want(t, fmt.Sprintf("node %d, group %d", id, g), n.Done(g, minInt), nil)
		}
		// The list itself is new memory.
		l := n.Done(1, 2)
		l = append(l[:2], api.Done{Slot: 99})
		l[0] = api.Done{Slot: 98}
		want(t, fmt.Sprintf("node %d, behind that", id), n.Done(1, 0), all)
	}
}

// P17.4: Leads and Shard of what is led and of what is not; what is told is a copy, but of Replica and Disk.
func TestTells(t *testing.T) {
	c := elected(t, 3, asItIs)
	c.sendSome(1, 2)
	c.tick(0)
	for id, n := range c.nodes {
		for g := range 4 {
			if n.Leads(g) != (id == 0) {
				t.Errorf("node %d, group %d: Leads tells %v", id, g, n.Leads(g))
			}
			if n.Replica(g) != n.Replica(g) || n.Disk(g) != n.Disk(g) || g > 0 && n.Shard(g) == n.Shard(g) {
				t.Errorf("node %d, group %d: it tells copies, or not", id, g)
			}
			if g > 0 && n.Replica(g) == n.Replica(g-1) || g > 0 && n.Disk(g) == n.Disk(g-1) {
				t.Errorf("node %d, group %d: it has another one's", id, g)
			}
		}
		was := pictureOf(n)
		n.Shard(1).Apply(valueOf(send(8, 1, lowName)))
		spoil(n.Chart())
		want(t, "behind that", pictureOf(n), was)
		if s := n.Shard(1); s.Slots() != 2 || s.Sessions().Last(9) != 2 {
			t.Errorf("node %d: %d slots", id, s.Slots())
		}
		if s := n.Shard(2); s.Slots() != 0 {
			t.Errorf("node %d: %d slots of shard 2", id, s.Slots())
		}
	}
	wantError(t, "Append to its disk", c.nodes[0].Disk(1).Append([]byte("x")), api.OK)
	if n := c.nodes[0].Disk(1).Size(); n != 1 {
		t.Errorf("its disk has %d bytes", n)
	}
}

// wantNothing checks that nothing is told of what is no group.
func wantNothing(t *testing.T, name string, n *node.Node, group int) {
	t.Helper()
	if n.Leads(group) || len(n.Done(group, 0)) != 0 || n.Shard(group) != nil || n.Replica(group) != nil || n.Disk(group) != nil {
		t.Errorf("%s: something is told of group %d", name, group)
	}
}

// P17.4: of what is no group; the chart's group has no shard.
func TestNoGroup(t *testing.T) {
	c := elected(t, 1, asItIs)
	c.sendSome(1, 2)
	n := c.nodes[0]
	check := func(name string) {
		for _, g := range []int{minInt, -1, 4, 5, 7, maxInt} {
			wantNothing(t, name, n, g)
		}
		if n.Shard(0) != nil {
			t.Errorf("%s: group 0 has a shard", name)
		}
	}
	check("a node")
	wantError(t, "Crash", n.Crash(0, 0), api.OK)
	check("one that is down")
}

// Rule 1, P17.5: nil, and what New did not make.
func TestNoNode(t *testing.T) {
	var none *node.Node
	for name, n := range map[string]*node.Node{"nil": none, "a plain Node{}": {}} {
		for _, g := range []int{minInt, -1, 0, 1, 4, maxInt} {
			wantNothing(t, name, n, g)
		}
		want(t, name, n.Chart(), api.Chart{})
		wantPackets(t, name+": Tick", n.Tick())
		for kind := range 9 {
			p := api.Packet{Kind: kind, From: -1, Cmd: send(1, 1, lowName)}
			wantPackets(t, fmt.Sprint(name, ": Recv of kind ", kind), n.Recv(p, 0))
		}
		wantError(t, name+": Crash", n.Crash(0, 0), api.ErrNil)
		wantError(t, name+": Crash", n.Crash(-1, -1), api.ErrNil)
		wantError(t, name+": Restart", n.Restart(), api.ErrNil)
		if !n.Down() {
			t.Errorf("%s is up", name)
		}
	}
}

// Example 1.
func TestExample(t *testing.T) {
	n := newNode(t, api.NodeConf{Nodes: 1, Shards: 1, Timeout: 1, Per: 8, Queues: queues()})
	wantPackets(t, "Tick", n.Tick())
	if n.Leads(0) || n.Leads(1) {
		t.Error("it leads too early")
	}
	wantPackets(t, "Tick", n.Tick())
	if !n.Leads(0) || !n.Leads(1) {
		t.Error("it does not lead both groups")
	}
	wantPackets(t, "PkAsk", recv(t, n, askOf(0, 1, send(1, 1, "g")), 5), answer(0, 1, 1, 1, api.Reply{Seq: 1}))
}
