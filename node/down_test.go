package node_test

import (
	"fmt"
	"slices"
	"testing"

	"raceway/api"
	"raceway/chart"
	"raceway/crc"
	"raceway/node"
)

// onDisk is the texts of what a group has written down.
func onDisk(t *testing.T, n *node.Node, group int) []string {
	t.Helper()
	b := n.Disk(group).Kept()
	if _, e := crc.Good(b); e != api.OK {
		t.Fatalf("the disk of group %d has something behind its frames: error %d", group, int(e))
	}
	var l []string
	for _, body := range crc.All(b) {
		l = append(l, string(body))
	}
	return l
}

// framed is texts as frames.
func framed(texts []string) []byte {
	var b []byte
	for _, text := range texts {
		frame, _ := crc.Frame([]byte(text))
		b = append(b, frame...)
	}
	return b
}

// crash lets a node crash, and restart brings it up.
func crash(t *testing.T, n *node.Node) {
	t.Helper()
	wantError(t, "Crash", n.Crash(0, 0), api.OK)
}

func restart(t *testing.T, n *node.Node) {
	t.Helper()
	wantError(t, "Restart", n.Restart(), api.OK)
}

// P17.3, Words: a group is written down just when its machine's Slots are Every or more above the replica's Base: then that is all of its machine, and the replica's base.
func TestEvery(t *testing.T) {
	for _, every := range []int{0, 1, 2, 5, 12, 13} {
		for group := range 3 {
			c := elected(t, 3, func(c *api.NodeConf) { c.Every = every })
			written := make([][]string, 3)
			base := make([]int, 3)
			for i := range 12 {
				c.ask(group, api.Cmd{Client: 8, Num: 1 + i})
				for id, n := range c.nodes {
					slots := n.Replica(group).Prefix()
					if every > 0 && slots-base[id] >= every {
						base[id], written[id] = slots, dumpOf(n, group)
					}
					name := fmt.Sprintf("Every %d, group %d, node %d, %d slots", every, group, id, slots)
					if got := n.Replica(group).Base(); got != base[id] {
						t.Errorf("%s: the base is %d, not %d", name, got, base[id])
					}
					want(t, name, onDisk(t, n, group), written[id])
				}
			}
			if n := c.nodes[0]; n.Replica(group).Prefix() != 12 || (n.Disk(group).Size() > 0) != (every > 0 && every <= 12) {
				t.Errorf("Every %d, group %d: %d slots, %d bytes", every, group, n.Replica(group).Prefix(), n.Disk(group).Size())
			}
			for _, n := range c.nodes {
				for other := range 4 {
					if other != group && (n.Disk(other).Size() != 0 || n.Replica(other).Base() != 0) {
						t.Errorf("Every %d, group %d: group %d is written down", every, group, other)
					}
				}
			}
		}
	}
}

// Words: it is written down behind all values that are applied at once.
func TestEveryOfManyAtOnce(t *testing.T) {
	for asks, base := range map[int]int{3: 0, 4: 4, 10: 10, 16: 16} {
		c := elected(t, 3, func(c *api.NodeConf) {
			if c.Id == 2 {
				c.Every = 4
			}
		})
		c.off = 2
		c.sendSome(1, asks)
		c.off = nobody
		c.tick(0)
		n := c.nodes[2]
		if r := n.Replica(1); r.Prefix() != asks || r.Base() != base || n.Shard(1).Slots() != asks {
			t.Errorf("%d at once: prefix %d, base %d, %d slots", asks, r.Prefix(), r.Base(), n.Shard(1).Slots())
		}
		want(t, "done", n.Done(1, 0), c.nodes[0].Done(1, 0))
	}
}

// P17.1, P17.3: 500 is the greatest Every.
func TestGreatestEvery(t *testing.T) {
	c := elected(t, 1, func(c *api.NodeConf) { c.Every, c.Per = 500, 1024 })
	c.sendSome(1, 499)
	n := c.nodes[0]
	if n.Replica(1).Base() != 0 || n.Disk(1).Size() != 0 {
		t.Errorf("behind 499 slots the base is %d", n.Replica(1).Base())
	}
	c.sendSome(500, 1)
	if n.Replica(1).Base() != 500 || n.Disk(1).Size() == 0 {
		t.Errorf("behind 500 slots the base is %d", n.Replica(1).Base())
	}
	// More slots than a replica has room for, one behind the other.
	c.sendSome(501, 1100)
	if n.Replica(1).Base() != 1500 || n.Shard(1).Slots() != 1600 {
		t.Errorf("behind 1600 slots the base is %d", n.Replica(1).Base())
	}
}

// P17.5, Words: what was written down is there behind any crash and a restart, and goes on; what was not is learned anew.
func TestWrittenDownStays(t *testing.T) {
	for _, every := range []int{0, 1, 3, 4, 100} {
		for _, keep := range []int{0, 1, 30, maxInt} {
			for _, flip := range []int{minInt, -1, 0, 5, 77, maxInt} {
				c := elected(t, 3, func(c *api.NodeConf) { c.Every = every })
				c.now = 5
				c.sendSome(1, 4)
				c.ask(0, api.Cmd{Kind: api.CmChart, Client: 9, Num: 9, Range: from(0, 1000), To: 3})
				c.ask(0, api.Cmd{Kind: api.CmChart, Client: 9, Num: 10, Range: from(5, 9), To: 2})
				c.sendSome(5, 3)
				c.tick(0)
				c.off = 2
				n := c.nodes[2]
				was := pictureOf(n)
				wantError(t, "Crash", n.Crash(keep, flip), api.OK)
				restart(t, n)
				name := fmt.Sprintf("Every %d, Crash(%d, %d)", every, keep, flip)
				wantRecalled(t, name, n, was)
				c.off = nobody
				for range 3 {
					c.tick(0)
				}
				for g := range 4 {
					want(t, name+", caught up", dumpOf(n, g), dumpOf(c.nodes[0], g))
					want(t, name+", done", n.Done(g, 0), c.nodes[0].Done(g, was.groups[g].base))
				}
			}
		}
	}
}

// wantRecalled checks that a node has come back with what it had written down, and nothing else.
func wantRecalled(t *testing.T, name string, n *node.Node, was picture) {
	t.Helper()
	if n.Down() {
		t.Fatalf("%s: it is down", name)
	}
	for g := range 4 {
		r, base := n.Replica(g), was.groups[g].base
		if r.Base() != base || r.Prefix() != base || n.Leads(g) || len(n.Done(g, 0)) != 0 || n.Disk(g).Down() || r.Down() {
			t.Errorf("%s, group %d: base %d, prefix %d, done %s", name, g, r.Base(), r.Prefix(), brief(n.Done(g, 0)))
		}
		want(t, name, n.Disk(g).Kept(), was.groups[g].disk)
		switch texts := onDisk(t, n, g); {
		case len(texts) > 0:
			want(t, name, dumpOf(n, g), texts)
		case g > 0:
			data, _ := n.Shard(g).Dump()
			want(t, name, data, firstDump(t, confOf(2, 3), g))
		default:
			first, _ := chart.First(2)
			want(t, name, n.Chart(), first)
		}
		if g > 0 && n.Shard(g).Slots() != base {
			t.Errorf("%s, group %d: %d slots, not %d", name, g, n.Shard(g).Slots(), base)
		}
	}
}

// P17.4, P17.5: of a node that is down: nothing, but its replicas and disks, which are down too.
func TestDown(t *testing.T) {
	c := elected(t, 1, func(c *api.NodeConf) { c.Every = 2 })
	c.sendSome(1, 5)
	n := c.nodes[0]
	var replicas, disks []any
	for g := range 4 {
		replicas, disks = append(replicas, n.Replica(g)), append(disks, n.Disk(g))
	}
	crash(t, n)
	if !n.Down() {
		t.Error("it is up")
	}
	wantPackets(t, "Tick", n.Tick())
	want(t, "Chart", n.Chart(), api.Chart{})
	for g := range 4 {
		if n.Leads(g) || len(n.Done(g, 0)) != 0 || n.Shard(g) != nil {
			t.Errorf("group %d: something is told", g)
		}
		if n.Replica(g) != replicas[g] || n.Disk(g) != disks[g] || !n.Replica(g).Down() || !n.Disk(g).Down() {
			t.Errorf("group %d: its replica and its disk are others, or up", g)
		}
	}
	restart(t, n)
	for g := range 4 {
		if n.Replica(g) != replicas[g] || n.Disk(g) != disks[g] {
			t.Errorf("group %d: behind a restart its replica and its disk are others", g)
		}
	}
	if n.Down() || n.Shard(1).Slots() != 4 || n.Shard(2).Slots() != 0 {
		t.Errorf("behind a restart: %d slots", n.Shard(1).Slots())
	}
}

// P17.5: errors, with which nothing changes: who waits goes on waiting, too.
func TestCrashAndRestartRefuse(t *testing.T) {
	c := elected(t, 3, func(c *api.NodeConf) { c.Every = 2 })
	c.sendSome(1, 3)
	n := c.nodes[0]
	sent := recv(t, n, askOf(0, 1, send(4, 1, lowName)), 5)
	was := pictureOf(n)
	for _, keep := range []int{-1, -2, minInt} {
		for _, flip := range []int{-1, 0, maxInt} {
			wantError(t, "Crash", n.Crash(keep, flip), api.ErrArg)
		}
	}
	wantError(t, "Restart", n.Restart(), api.ErrState)
	want(t, "one that is up", pictureOf(n), was)
	wantPackets(t, "who waits", c.run(sent...), answer(0, 1, 4, 1, api.Reply{Seq: 1}))
	crash(t, n)
	was = pictureOf(n)
	for _, keep := range []int{0, 5, -1, maxInt} {
		wantError(t, "Crash of one that is down", n.Crash(keep, 0), api.ErrDown)
	}
	want(t, "one that is down", pictureOf(n), was)
	restart(t, n)
	wantError(t, "Restart", n.Restart(), api.ErrState)
	if n.Down() || n.Shard(1).Slots() != 4 {
		t.Errorf("behind that: %d slots", n.Shard(1).Slots())
	}
}

// P17.5: behind a restart nobody waits: what was asked ahead of it is done, and not answered.
func TestNobodyWaitsBehindARestart(t *testing.T) {
	c := elected(t, 3, asItIs)
	sent := recv(t, c.nodes[0], askOf(0, 1, send(4, 1, lowName)), 5)
	recv(t, c.nodes[1], sent[0], 5)
	crash(t, c.nodes[0])
	restart(t, c.nodes[0])
	c.off = 0
	c.elect(1)
	c.off = nobody
	wantPackets(t, "what it learns", c.tick(1))
	want(t, "done", c.nodes[0].Done(1, 0), c.nodes[1].Done(1, 0))
	if d := c.nodes[0].Done(1, 0); len(d) != 1 || d[0].Cmd.Client != 4 || !d[0].Fresh {
		t.Errorf("done: %s", brief(d))
	}
	// Who asks behind it is answered.
	wantPackets(t, "asked again", c.run(askOf(1, 1, send(4, 1, lowName))), answer(1, 1, 4, 1, api.Reply{Seq: 1}))
}

// P17.5: where a disk has no dump of that group's machine, the machine is as at first; behind a crash queues are as they were.
func TestRestartWithoutADump(t *testing.T) {
	shardData, chartData := withSlots(t, 1, 9), withSlots(t, 0, 9)
	for name, b := range map[string][]byte{
		"no byte":             nil,
		"any bytes":           []byte("any"),
		"a frame":             framed([]string{"any"}),
		"one too much":        framed(append(slices.Clone(shardData), "x")),
		"the head alone":      framed(shardData[:1]),
		"a byte is missing":   framed(shardData)[1:],
		"cut within a frame":  framed(shardData)[:14],
		"a chart's, short":    framed(chartData[:2]),
		"a chart's, and one":  framed(append(slices.Clone(chartData), "")),
		"an empty text alone": framed([]string{""}),
	} {
		c := elected(t, 1, func(c *api.NodeConf) { c.Every = 1 })
		n := c.nodes[0]
		for g := range 4 {
			c.ask(g, api.Cmd{Client: 8, Num: 1})
			wantError(t, name, n.Disk(g).Swap(b), api.OK)
		}
		crash(t, n)
		restart(t, n)
		for g := range 4 {
			wantAtFirst(t, name, n, g)
		}
	}
	c := elected(t, 1, asItIs)
	for g := range 4 {
		data := chartData
		if g == 0 {
			data = shardData
		}
		wantError(t, "Swap", c.nodes[0].Disk(g).Swap(framed(data)), api.OK)
	}
	crash(t, c.nodes[0])
	restart(t, c.nodes[0])
	for g := range 4 {
		wantAtFirst(t, "another machine's", c.nodes[0], g)
	}
}

// wantAtFirst checks that a machine of a node of confOf is as at first.
func wantAtFirst(t *testing.T, name string, n *node.Node, group int) {
	t.Helper()
	if l := dumpOf(n, group); len(l) != 0 {
		t.Errorf("%s, group %d: it has applied something: %s", name, group, brief(l))
	}
	if group == 0 {
		first, _ := chart.First(2)
		want(t, name, n.Chart(), first)
		return
	}
	data, _ := n.Shard(group).Dump()
	want(t, fmt.Sprint(name, ", group ", group), data, firstDump(t, confOf(0, 1), group))
}

// P17.5: the dump is all frames that the disk has; what stands behind them is none.
func TestRestartWithSomethingBehindADump(t *testing.T) {
	for _, behind := range []string{"", "x", "a long row of bytes that is no frame"} {
		n := elected(t, 1, asItIs).nodes[0]
		for g := range 4 {
			b := append(framed(withSlots(t, g, 9)), behind...)
			wantError(t, "Swap", n.Disk(g).Swap(b), api.OK)
		}
		crash(t, n)
		restart(t, n)
		for g := range 4 {
			want(t, fmt.Sprintf("%q, group %d", behind, g), dumpOf(n, g), withSlots(t, g, 9))
		}
	}
}

// Rule 1: who crashes or restarts one replica or disk by itself brings nothing to panic.
func TestOneReplicaApart(t *testing.T) {
	for _, first := range []bool{false, true} {
		for g := range 4 {
			c := elected(t, 1, func(c *api.NodeConf) { c.Every = 1 })
			n := c.nodes[0]
			if first {
				crash(t, n)
				n.Replica(g).Restart()
			} else {
				n.Replica(g).Crash(0, 0)
				n.Disk(g).Crash(0, 0)
			}
			if n.Down() {
				t.Errorf("group %d: it is down as a whole", g)
			}
			for range 4 {
				n.Tick()
				for _, p := range useful(elected(t, 3, asItIs)) {
					for p.Group = range 4 {
						n.Recv(p, 5)
						pictureOf(n)
					}
				}
			}
			n.Crash(0, 0)
			if !n.Down() {
				t.Errorf("group %d: it is up behind a Crash", g)
			}
			n.Restart()
			if n.Down() {
				t.Errorf("group %d: it is down behind a Restart", g)
			}
		}
	}
}
