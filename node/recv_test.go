package node_test

import (
	"fmt"
	"strings"
	"testing"

	"raceway/api"
	"raceway/chart"
	"raceway/node"
	"raceway/shard"
)

// useful has packets to node 0 of three, which leads, each of which does or tells something.
func useful(c *cluster) map[string]api.Packet {
	own := c.nodes[0].Replica(1).Ballot()
	cmd := send(4, 1, lowName)
	snap := withSlots(c.t, 1, 9)
	return map[string]api.Packet{
		"a Prepare":       {Kind: api.PkPaxos, From: 1, Group: 1, Msg: api.Msg{Kind: api.MsPrepare, From: 1, Ballot: own + 8}},
		"a Behind":        {Kind: api.PkPaxos, From: 1, Group: 1, Msg: api.Msg{Kind: api.MsBehind, From: 1, Slot: 5}},
		"a PkAsk":         askOf(0, 1, cmd),
		"a PkPull":        {Kind: api.PkPull, From: 2, Group: 1},
		"a PkSnap":        {Kind: api.PkSnap, From: 2, Group: 1, Data: snap},
		"a PkMap":         {Kind: api.PkMap, From: -4, Group: 1},
		"a chart's PkMap": {Kind: api.PkMap, From: -4},
	}
}

// P17.3: nothing, if the node is down, To is another one, Group is none, now may not be, or Kind is none.
func TestRecvOfNoConcern(t *testing.T) {
	c := elected(t, 3, asItIs)
	c.sendSome(1, 3)
	n := c.nodes[0]
	was := pictureOf(n)
	for name, p := range useful(c) {
		for _, to := range []int{1, 2, 3, -1, -4, minInt, maxInt} {
			q := p
			q.To, q.Msg.To = to, 0
			wantPackets(t, fmt.Sprint(name, " to ", to), recv(t, n, q, 5))
		}
		for _, group := range []int{-1, 4, 5, minInt, maxInt} {
			q := p
			q.Group = group
			wantPackets(t, fmt.Sprint(name, " of group ", group), recv(t, n, q, 5))
		}
		for _, now := range []int{-1, maxTime + 1, minInt, maxInt} {
			wantPackets(t, fmt.Sprint(name, " at ", now), recv(t, n, p, now))
		}
		for _, kind := range []int{0, api.PkReply, api.PkChart, 8, -1, minInt, maxInt} {
			q := p
			q.Kind = kind
			wantPackets(t, fmt.Sprint(name, " of kind ", kind), recv(t, n, q, 5))
		}
		want(t, name, pictureOf(n), was)
	}
	wantError(t, "Crash", n.Crash(0, 0), api.OK)
	was = pictureOf(n)
	for name, p := range useful(elected(t, 3, asItIs)) {
		wantPackets(t, name+", down", recv(t, n, p, 5))
		want(t, name+", down", pictureOf(n), was)
	}
}

// P17.3: at the edges of now, and of the groups, each of them is heard.
func TestRecvOfConcern(t *testing.T) {
	for _, now := range []int{0, 1, maxTime - 1, maxTime} {
		for name := range useful(elected(t, 3, asItIs)) {
			c := elected(t, 3, asItIs)
			c.sendSome(1, 3)
			n := c.nodes[0]
			was := pictureOf(n)
			told := recv(t, n, useful(c)[name], now)
			if len(told) == 0 && same(pictureOf(n), was) {
				t.Errorf("%s at %d: nothing", name, now)
			}
		}
	}
	n := elected(t, 1, asItIs).nodes[0]
	for group := range 4 {
		p := api.Packet{Kind: api.PkMap, From: -3, Group: group}
		wantPackets(t, fmt.Sprint("group ", group), recv(t, n, p, 0), api.Packet{Kind: api.PkChart, To: -3, Group: group, Chart: n.Chart()})
	}
}

// P17.3: a replica's answers, as packets; behind them who waits is answered.
func TestPaxosPackets(t *testing.T) {
	c := elected(t, 3, asItIs)
	n := c.nodes[0]
	own := n.Replica(1).Ballot()
	cmd := send(4, 1, lowName)
	sent := recv(t, n, askOf(0, 1, cmd), 7)
	cmd.Time = 7
	accept := api.Msg{Kind: api.MsAccept, To: 1, Ballot: own, Value: valueOf(cmd)}
	other := accept
	other.To = 2
	wantPackets(t, "PkAsk", sent,
		api.Packet{Kind: api.PkPaxos, To: 1, Group: 1, Msg: accept}, api.Packet{Kind: api.PkPaxos, To: 2, Group: 1, Msg: other})
	back := recv(t, c.nodes[1], sent[0], 8)
	wantPackets(t, "the Accept", back, api.Packet{Kind: api.PkPaxos, From: 1, Group: 1, Msg: api.Msg{Kind: api.MsAccepted, From: 1, Ballot: own}})
	learn := func(to int) api.Packet {
		return api.Packet{Kind: api.PkPaxos, To: to, Group: 1, Msg: api.Msg{Kind: api.MsLearn, To: to, Ballot: own, Votes: []api.Vote{{Ballot: own, Value: valueOf(cmd)}}}}
	}
	wantPackets(t, "the Accepted", recv(t, n, back[0], 9), learn(1), learn(2), answer(0, 1, 4, 1, api.Reply{Seq: 1}))
	done := []api.Done{{Time: 7, Cmd: cmd, Reply: api.Reply{Seq: 1}, Fresh: true}}
	want(t, "done", n.Done(1, 0), done)
	want(t, "node 1, ahead", c.nodes[1].Done(1, 0), nil)
	wantPackets(t, "the Learn", recv(t, c.nodes[1], learn(1), 10))
	want(t, "node 1, done", c.nodes[1].Done(1, 0), done)
	// Of another group nothing was heard.
	for _, g := range []int{0, 2, 3} {
		if n.Replica(g).Prefix() != 0 || len(n.Done(g, 0)) != 0 {
			t.Errorf("group %d has something", g)
		}
	}
}

// P17.3: a Behind above the prefix lets a node pull, from who sent it; one at it or below it, or of no other node, does not.
func TestBehind(t *testing.T) {
	for _, asks := range []int{0, 1, 4} {
		c := elected(t, 3, asItIs)
		c.sendSome(1, asks)
		c.tick(0)
		for id, n := range c.nodes {
			other := (id + 1) % 3
			for _, slot := range []int{0, asks - 1, asks, asks + 1, asks + 2, maxSlot, minInt, maxInt} {
				for _, who := range []int{other, (id + 2) % 3, id, 3, 4, -1, -9, minInt, maxInt} {
					p := api.Packet{Kind: api.PkPaxos, From: who, To: id, Group: 1, Msg: api.Msg{Kind: api.MsBehind, From: who, To: id, Slot: slot}}
					name := fmt.Sprintf("node %d has %d slots: a Behind of %d, slot %d", id, asks, who, slot)
					var should []api.Packet
					if slot > asks && who >= 0 && who < 3 && who != id {
						should = append(should, api.Packet{Kind: api.PkPull, From: id, To: who, Group: 1})
					}
					was := pictureOf(n)
					wantPackets(t, name, recv(t, n, p, 3), should...)
					want(t, name, pictureOf(n), was)
				}
			}
			// Another message with such a slot pulls nothing.
			for kind := range 12 {
				if kind == api.MsBehind {
					continue
				}
				p := api.Packet{Kind: api.PkPaxos, From: other, To: id, Group: 1, Msg: api.Msg{Kind: kind, From: other, To: id, Slot: asks + 5}}
				for _, told := range recv(t, n, p, 3) {
					if told.Kind == api.PkPull {
						t.Errorf("kind %d pulls", kind)
					}
				}
			}
		}
	}
}

// P17.3: a PkAsk of a node, of another client, of no number: nothing, whether the node leads or not.
func TestAskOfNobody(t *testing.T) {
	c := elected(t, 3, asItIs)
	for id, n := range c.nodes {
		was := pictureOf(n)
		for _, ask := range []struct{ from, client, num int }{
			{0, 4, 1}, {1, 4, 1}, {4, 4, 1}, {maxInt, 4, 1}, {-4, 5, 1}, {-4, -4, 1}, {-4, 0, 1}, {0, 0, 1}, {4, -4, 1}, {1, -1, 1},
			{-4, 4, 0}, {-4, 4, -1}, {-4, 4, minInt}, {minInt, minInt, 1}, {minInt, maxInt, 1}, {minInt, 0, 1}, {-maxInt, minInt, 1}, {minInt, minInt, minInt},
		} {
			cmd := send(ask.client, ask.num, lowName)
			p := api.Packet{Kind: api.PkAsk, From: ask.from, To: id, Group: 1, Cmd: cmd}
			wantPackets(t, fmt.Sprintf("node %d: %+v", id, ask), recv(t, n, p, 5))
		}
		want(t, fmt.Sprint("node ", id), pictureOf(n), was)
	}
}

// P17.3: who does not lead tells whom it takes for the leader, ahead of what is wrong with the command.
func TestAskOfFollowers(t *testing.T) {
	leaderless := func(t *testing.T, n *node.Node, id int) {
		t.Helper()
		for group := range 4 {
			for _, cmd := range []api.Cmd{send(4, 1, lowName), {Kind: 99, Client: maxInt, Num: maxInt, Queue: -1}} {
				wantPackets(t, "nobody leads", recv(t, n, askOf(id, group, cmd), 5), answer(id, group, cmd.Client, cmd.Num, api.Reply{Err: api.ErrLeader}))
			}
		}
	}
	for leader := range 3 {
		c := clusterOf(t, 3, asItIs)
		for id, n := range c.nodes {
			leaderless(t, n, id)
		}
		c.elect(leader)
		for id, n := range c.nodes {
			if id == leader {
				continue
			}
			was := pictureOf(n)
			for group := range 4 {
				cmd := send(4, 1, lowName)
				wantPackets(t, "a follower", recv(t, n, askOf(id, group, cmd), 5), answer(id, group, 4, 1, api.Reply{Err: api.ErrLeader, N: 1 + leader}))
			}
			want(t, "a follower", pictureOf(n), was)
		}
	}
	// A candidate takes nobody for the leader.
	c := elected(t, 3, asItIs)
	for c.nodes[1].Replica(0).Role() != api.RoCandidate {
		tick(c.nodes[1])
	}
	leaderless(t, c.nodes[1], 1)
}

// P17.3: in one group a node may lead, and in another one follow.
func TestAskOfHalfALeader(t *testing.T) {
	c := elected(t, 3, asItIs)
	own := c.nodes[0].Replica(2).Ballot()
	beat := api.Packet{Kind: api.PkPaxos, From: 2, Group: 2, Msg: api.Msg{Kind: api.MsBeat, From: 2, Ballot: own + 2}}
	wantPackets(t, "a Beat", recv(t, c.nodes[0], beat, 1))
	for group, should := range []bool{true, true, false, true} {
		if c.nodes[0].Leads(group) != should {
			t.Errorf("group %d: it leads, or not", group)
		}
	}
	if r := c.ask(1, send(4, 1, lowName)); r.Err != api.OK {
		t.Errorf("group 1: error %d", int(r.Err))
	}
	want(t, "group 2", c.ask(2, send(4, 1, highName)), api.Reply{Err: api.ErrLeader, N: 3})
}

// P17.3: wire's error of a command is told, and nothing is proposed.
func TestAskOfWrongCommands(t *testing.T) {
	c := elected(t, 3, asItIs)
	n := c.nodes[0]
	was := pictureOf(n)
	for name, x := range map[string]struct {
		e      api.Errno
		change func(*api.Cmd)
	}{
		"a Kind that there is not":      {api.ErrArg, func(c *api.Cmd) { c.Kind = 11 }},
		"a Kind below 0":                {api.ErrArg, func(c *api.Cmd) { c.Kind = -1 }},
		"a Queue below 0":               {api.ErrArg, func(c *api.Cmd) { c.Queue = -1 }},
		"a client above 2^40":           {api.ErrArg, func(c *api.Cmd) { c.Client = maxTime + 1 }},
		"the greatest client":           {api.ErrArg, func(c *api.Cmd) { c.Client = maxInt }},
		"a number above 2^40":           {api.ErrArg, func(c *api.Cmd) { c.Num = maxTime + 1 }},
		"a Range that may not be":       {api.ErrArg, func(c *api.Cmd) { c.Range = from(9, 3) }},
		"a long Group":                  {api.ErrLong, func(c *api.Cmd) { c.Group = strings.Repeat("g", 33) }},
		"a long Body":                   {api.ErrLong, func(c *api.Cmd) { c.Body = strings.Repeat("b", 129) }},
		"long Data":                     {api.ErrLong, func(c *api.Cmd) { c.Data = []string{strings.Repeat("d", 4097)} }},
		"much Data":                     {api.ErrLong, func(c *api.Cmd) { c.Data = make([]string, 1025) }},
		"a long Body and a wrong Queue": {api.ErrArg, func(c *api.Cmd) { c.Queue, c.Body = -1, strings.Repeat("b", 129) }},
		"more bytes than a value has":   {api.ErrLong, func(c *api.Cmd) { c.Data = strings.Split(strings.Repeat(strings.Repeat("d", 4000)+",", 9), ",") }},
	} {
		cmd := send(4, 1, lowName)
		x.change(&cmd)
		for group := range 4 {
			p := api.Packet{Kind: api.PkAsk, From: -cmd.Client, Group: group, Cmd: cmd}
			wantPackets(t, name, recv(t, n, p, 5), answer(0, group, cmd.Client, cmd.Num, api.Reply{Err: x.e}))
		}
		want(t, name, pictureOf(n), was)
	}
	// None of them waits.
	told := c.run(askOf(0, 1, send(4, 1, lowName)))
	wantPackets(t, "then", told, answer(0, 1, 4, 1, api.Reply{Seq: 1}))
}

// P17.3: the Cmd's own Time counts for nothing; now does, up to 2^40.
func TestAskAtTimes(t *testing.T) {
	for _, now := range []int{0, 1, 300, maxTime} {
		for _, time := range []int{0, -1, 5, maxTime + 1, minInt, maxInt} {
			c := elected(t, 1, asItIs)
			c.now = now
			cmd := send(4, 1, lowName)
			cmd.Time = time
			want(t, "the reply", c.ask(1, cmd), api.Reply{Seq: 1})
			cmd.Time = now
			want(t, "done", c.nodes[0].Done(1, 0), []api.Done{{Time: now, Cmd: cmd, Reply: api.Reply{Seq: 1}, Fresh: true}})
		}
	}
}

// P17.3: a Propose that is refused: no slot is near any more, where nothing is written down; or the log is full.
func TestAskThatIsRefused(t *testing.T) {
	for _, nodes := range []int{1, 3} {
		for _, full := range []struct{ per, most int }{{1024, 1024}, {1, 255}} {
			c := elected(t, nodes, func(c *api.NodeConf) { c.Per = full.per })
			n := c.nodes[0]
			// Of three, nothing of that is ever chosen.
			for i := range full.most {
				cmd := send(4, 1+i, lowName)
				cmd.Queue, cmd.Token = 1, "t"
				recv(t, n, askOf(0, 1, cmd), 5)
			}
			was := pictureOf(n)
			if was.groups[1].slots != full.most {
				t.Fatalf("%d slots are proposed, not %d", was.groups[1].slots, full.most)
			}
			cmd := send(4, 5000, lowName)
			for range 2 {
				wantPackets(t, "one more", recv(t, n, askOf(0, 1, cmd), 5), answer(0, 1, 4, 5000, api.Reply{Err: api.ErrFull}))
				want(t, "one more", pictureOf(n), was)
			}
			// Another group has room.
			if told := recv(t, n, askOf(0, 2, send(4, 1, highName)), 5); len(told) == 0 || told[0].Reply.Err != api.OK {
				t.Errorf("group 2: %s", brief(told))
			}
		}
	}
}

// P17.3, Words: a number that is asked twice before it is chosen is chosen twice, done once and answered once; behind that it is answered again.
func TestAskTwice(t *testing.T) {
	c := elected(t, 3, asItIs)
	n := c.nodes[0]
	cmd := send(4, 1, lowName)
	l := append(recv(t, n, askOf(0, 1, cmd), 5), recv(t, n, askOf(0, 1, cmd), 6)...)
	if len(l) != 4 {
		t.Fatalf("%d packets: %s", len(l), brief(l))
	}
	wantPackets(t, "both", c.run(l...), answer(0, 1, 4, 1, api.Reply{Seq: 1}))
	c.now = 7
	wantPackets(t, "behind them", c.run(askOf(0, 1, cmd)), answer(0, 1, 4, 1, api.Reply{Seq: 1}))
	wantPackets(t, "once more", c.run(askOf(0, 1, cmd)), answer(0, 1, 4, 1, api.Reply{Seq: 1}))
	// A later number, and then the old one.
	wantPackets(t, "number 2", c.run(askOf(0, 1, send(4, 2, lowName))), answer(0, 1, 4, 2, api.Reply{Seq: 2}))
	wantPackets(t, "number 1", c.run(askOf(0, 1, cmd)), answer(0, 1, 4, 1, api.Reply{Err: api.ErrOld}))
	c.tick(0)
	for id, n := range c.nodes {
		for i, d := range n.Done(1, 0) {
			if d.Fresh != (i == 0 || i == 4) || d.Time != []int{5, 6, 7, 7, 7, 7}[i] {
				t.Errorf("node %d, slot %d: %s", id, i, brief(d))
			}
		}
		if m, _ := n.Shard(1).Engine().Group(0, lowName); len(m.Kept) != 2 {
			t.Errorf("node %d has %d messages", id, len(m.Kept))
		}
	}
}

// Words: who waits does so for a group: the same number in another one is answered by itself, and in its own time.
func TestAskInTwoGroups(t *testing.T) {
	c := elected(t, 3, asItIs)
	n := c.nodes[0]
	low, high := send(4, 1, lowName), send(4, 1, highName)
	first := recv(t, n, askOf(0, 1, low), 5)
	second := recv(t, n, askOf(0, 2, high), 5)
	chartAsk := recv(t, n, askOf(0, 0, api.Cmd{Client: 4, Num: 1}), 5)
	// Client 5 waits in group 1 for a number that client 4 has there, and client 4 for another one.
	third := recv(t, n, askOf(0, 1, send(5, 1, lowName)), 5)
	fourth := recv(t, n, askOf(0, 1, send(4, 2, lowName)), 5)
	wantPackets(t, "group 2", c.run(second...), answer(0, 2, 4, 1, api.Reply{Seq: 1}))
	told := c.run(chartAsk...)
	text, _ := chart.Dump(n.Chart())
	wantPackets(t, "group 0", told, answer(0, 0, 4, 1, api.Reply{N: 1, Data: []string{text}}))
	wantPackets(t, "group 1", c.run(first...), answer(0, 1, 4, 1, api.Reply{Seq: 1}))
	wantPackets(t, "client 5", c.run(third...), answer(0, 1, 5, 1, api.Reply{Seq: 2}))
	wantPackets(t, "number 2", c.run(fourth...), answer(0, 1, 4, 2, api.Reply{Seq: 3}))
}

// Words: each node answers whoever waits there, as soon as it has applied that, whoever proposed it.
func TestTwoLeadersAnswer(t *testing.T) {
	c := elected(t, 3, asItIs)
	cmd := send(4, 1, lowName)
	// What node 0 proposes is lost, but to itself.
	recv(t, c.nodes[0], askOf(0, 1, cmd), 5)
	c.off = 0
	c.elect(1)
	c.now = 6
	wantPackets(t, "node 1", c.run(askOf(1, 1, cmd)), answer(1, 1, 4, 1, api.Reply{Seq: 1}))
	c.off = nobody
	wantPackets(t, "node 0, as it learns", c.tick(1), answer(0, 1, 4, 1, api.Reply{Seq: 1}))
	wantPackets(t, "then", c.tick(1))
	want(t, "node 0", c.nodes[0].Done(1, 0), c.nodes[1].Done(1, 0))
	if d := c.nodes[0].Done(1, 0); len(d) != 1 || d[0].Time != 6 || !d[0].Fresh {
		t.Errorf("done: %s", brief(d))
	}
}

// P17.3: who pulls is told what the machine has, whoever he is, if it has applied something.
func TestPull(t *testing.T) {
	c := elected(t, 1, asItIs)
	n := c.nodes[0]
	pull := func(from, group int) api.Packet {
		return api.Packet{Kind: api.PkPull, From: from, Group: group, Data: []string{"no matter"}}
	}
	for group := range 4 {
		wantPackets(t, "ahead", recv(t, n, pull(1, group), 5))
	}
	c.sendSome(1, 3)
	c.ask(0, api.Cmd{Kind: api.CmChart, Client: 9, Num: 9, Range: from(0, 5), To: 3})
	was := pictureOf(n)
	for group := range 4 {
		for _, who := range []int{0, 1, 2, 3, 77, maxInt, -1, -9, minInt} {
			told := recv(t, n, pull(who, group), 5)
			name := fmt.Sprintf("group %d, from %d", group, who)
			if who < 0 || group > 1 {
				wantPackets(t, name, told)
				continue
			}
			if len(told) != 1 {
				t.Fatalf("%s: %s", name, brief(told))
			}
			wantPackets(t, name, told, api.Packet{Kind: api.PkSnap, To: who, Group: group, Data: told[0].Data})
			wantTold(t, name, n, group, told[0].Data)
		}
	}
	want(t, "behind that", pictureOf(n), was)
}

// wantTold checks that data is what a node's machine has.
func wantTold(t *testing.T, name string, n *node.Node, group int, data []string) {
	t.Helper()
	if group == 0 {
		m, e := chart.Revive(data)
		wantError(t, name, e, api.OK)
		want(t, name, m.Chart(), n.Chart())
		if m.Slots() != n.Replica(0).Prefix() {
			t.Errorf("%s: %d slots, not %d", name, m.Slots(), n.Replica(0).Prefix())
		}
		return
	}
	own, e := n.Shard(group).Dump()
	wantError(t, name, e, api.OK)
	want(t, name, data, own)
}

// withSlots is the dump of a group's machine, as it has so many slots: of a shard, a message is in it.
func withSlots(t *testing.T, group, slots int) []string {
	t.Helper()
	conf := confOf(0, 1)
	if group == 0 {
		m, _ := chart.New(conf.Shards)
		for i := range slots {
			m.Apply(valueOf(api.Cmd{Kind: api.CmChart, Client: 3, Num: 1 + i, Range: from(i, i+1), To: 3}))
		}
		data, e := m.Dump()
		wantError(t, "Dump", e, api.OK)
		return data
	}
	first, _ := chart.First(conf.Shards)
	s, _ := shard.New(conf.Queues, chart.Ranges(first, group))
	name := lowName
	if group == 2 {
		name = highName
	}
	for i := range slots {
		cmd := send(3, 1+i, name)
		cmd.Token = "t"
		s.Apply(valueOf(cmd))
	}
	data, e := s.Dump()
	wantError(t, "Dump", e, api.OK)
	return data
}

// P17.3: the dump of a machine that has fewer slots, or as many, is nothing; that of one that has more takes its place, is installed, and is written down, whatever Every is.
func TestSnap(t *testing.T) {
	for group := range 4 {
		for _, every := range []int{0, 1, 500} {
			for _, own := range []int{0, 1, 5} {
				for _, slots := range []int{0, 1, 4, 5, 6, 30} {
					c := elected(t, 1, func(c *api.NodeConf) { c.Every = every })
					n := c.nodes[0]
					for i := range own {
						c.ask(group, api.Cmd{Client: 8, Num: 1 + i})
					}
					was := pictureOf(n)
					data := withSlots(t, group, slots)
					name := fmt.Sprintf("group %d, Every %d, %d slots onto %d", group, every, slots, own)
					p := api.Packet{Kind: api.PkSnap, From: 2, Group: group, Data: data}
					wantPackets(t, name, recv(t, n, p, 5))
					if slots <= own {
						want(t, name, pictureOf(n), was)
						continue
					}
					r := n.Replica(group)
					if r.Prefix() != slots || r.Base() != slots || r.Role() != api.RoFollower {
						t.Errorf("%s: prefix %d, base %d, role %d", name, r.Prefix(), r.Base(), r.Role())
					}
					wantTold(t, name, n, group, data)
					want(t, name+", on its disk", onDisk(t, n, group), data)
					want(t, name+", done", n.Done(group, 0), was.groups[group].done)
					// The same one again is nothing.
					is := pictureOf(n)
					wantPackets(t, name, recv(t, n, p, 5))
					want(t, name, pictureOf(n), is)
					now := pictureOf(n)
					now.groups[group], now.chart = was.groups[group], was.chart
					want(t, name+", the others", now, was)
				}
			}
		}
	}
}

// P17.3: what is no dump of that group's machine.
func TestSnapOfNoDump(t *testing.T) {
	c := elected(t, 3, asItIs)
	c.sendSome(1, 2)
	n := c.nodes[0]
	was := pictureOf(n)
	shardData, chartData := withSlots(t, 1, 30), withSlots(t, 0, 30)
	wrong := map[string][]string{
		"nothing":           nil,
		"an empty text":     {""},
		"any text":          {"any"},
		"a text too much":   append(copyOf(shardData), "x"),
		"a chart's and one": append(copyOf(chartData), ""),
		"a chart's, short":  chartData[:2],
		"a head alone":      shardData[:1],
		"slots above 2^40":  append([]string{"\x81\x80\x80\x80\x80\x40" + shardData[0][1:]}, shardData[1:]...),
	}
	for name, data := range wrong {
		for group := range 4 {
			p := api.Packet{Kind: api.PkSnap, From: 2, Group: group, Data: data}
			wantPackets(t, name, recv(t, n, p, 5))
			want(t, fmt.Sprint(name, ", group ", group), pictureOf(n), was)
		}
	}
	for group := range 4 {
		data := chartData
		if group == 0 {
			data = shardData
		}
		wantPackets(t, "another machine's", recv(t, n, api.Packet{Kind: api.PkSnap, From: 2, Group: group, Data: data}, 5))
		want(t, fmt.Sprint("another machine's, group ", group), pictureOf(n), was)
	}
}

// P17.3: what a replica can't install is the machine's all the same: slots above 2^30.
func TestSnapFarOff(t *testing.T) {
	far := func(slots string) []string {
		data := withSlots(t, 1, 9)
		return append([]string{slots + data[0][1:]}, data[1:]...)
	}
	for slots, data := range map[int][]string{maxSlot: far("\x80\x80\x80\x80\x04"), maxSlot + 1: far("\x81\x80\x80\x80\x04"), maxTime: far("\x80\x80\x80\x80\x80\x20")} {
		n := elected(t, 1, asItIs).nodes[0]
		wantPackets(t, "PkSnap", recv(t, n, api.Packet{Kind: api.PkSnap, From: 1, Group: 1, Data: data}, 5))
		prefix := 0
		if slots == maxSlot {
			prefix = maxSlot
		}
		if r := n.Replica(1); n.Shard(1).Slots() != slots || r.Prefix() != prefix || r.Base() != prefix {
			t.Errorf("%d slots: the shard has %d, the prefix is %d, the base %d", slots, n.Shard(1).Slots(), r.Prefix(), r.Base())
		}
		want(t, "on its disk", onDisk(t, n, 1), data)
		tick(n)
		tick(n)
		wantError(t, "Crash", n.Crash(0, 0), api.OK)
		wantError(t, "Restart", n.Restart(), api.OK)
		if n.Shard(1).Slots() != slots {
			t.Errorf("%d slots: behind a restart the shard has %d", slots, n.Shard(1).Slots())
		}
	}
}

// P17.3: clients alone are told the chart, as it is in group 0.
func TestMap(t *testing.T) {
	c := elected(t, 3, asItIs)
	check := func(name string, should api.Chart) {
		t.Helper()
		for id, n := range c.nodes {
			for _, who := range []int{-1, -7, minInt, 0, 1, 5, maxInt} {
				var told []api.Packet
				if who < 0 {
					told = append(told, api.Packet{Kind: api.PkChart, From: id, To: who, Chart: should})
				}
				p := api.Packet{Kind: api.PkMap, From: who, To: id, Chart: api.Chart{Epoch: 7}}
				wantPackets(t, fmt.Sprintf("%s: node %d, from %d", name, id, who), recv(t, n, p, 5), told...)
			}
		}
	}
	first, _ := chart.First(2)
	check("at first", first)
	c.ask(0, api.Cmd{Kind: api.CmChart, Client: 9, Num: 1, Range: from(0, 1000), To: 3})
	c.tick(0)
	moved, _ := chart.Move(first, from(0, 1000), 3)
	check("then", moved)
}
