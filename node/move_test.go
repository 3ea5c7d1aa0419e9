package node_test

import (
	"fmt"
	"testing"

	"raceway/api"
	"raceway/chart"
	"raceway/place"
)

// bodies are those of deliveries, in order.
func bodies(l []api.Got) []string {
	var told []string
	for _, g := range l {
		told = append(told, g.Body)
	}
	return told
}

// Ordinary runs: sends, receives, deletes, changes; each node has done the same.
func TestSendReceiveDelete(t *testing.T) {
	for _, nodes := range []int{1, 3, 5} {
		c := elected(t, nodes, asItIs)
		for i, body := range []string{"a", "b", "c"} {
			c.now = 10 + i
			cmd := api.Cmd{Kind: api.CmSend, Client: 4, Num: 1 + i, Group: lowName, Body: body}
			want(t, "send", c.ask(1, cmd), api.Reply{Seq: 1 + i})
		}
		receive := api.Cmd{Kind: api.CmReceive, Client: 5, Num: 1, Max: 2, Secs: 20, Attempt: "p"}
		got := c.ask(1, receive)
		want(t, "receive", bodies(got.Got), []string{"a", "b"})
		want(t, "About", got.About, []api.Range{from(0, span/2)})
		receive.Num = 2
		want(t, "the attempt again", c.ask(1, receive), got)
		receive.Num, receive.Attempt = 3, "q"
		want(t, "another attempt", c.ask(1, receive), api.Reply{About: got.About})
		want(t, "delete", c.ask(1, api.Cmd{Kind: api.CmDelete, Client: 5, Num: 4, Receipt: got.Got[0].Receipt}), api.Reply{})
		want(t, "change", c.ask(1, api.Cmd{Kind: api.CmChange, Client: 5, Num: 5, Receipt: got.Got[1].Receipt}), api.Reply{})
		receive.Num = 6
		want(t, "then", bodies(c.ask(1, receive).Got), []string{"b", "c"})
		want(t, "another shard", c.ask(2, send(4, 9, lowName)), api.Reply{Err: api.ErrMoved})
		want(t, "purge", c.ask(1, api.Cmd{Kind: api.CmPurge, Client: 5, Num: 7}).N, 2)
		c.tick(0)
		for id, n := range c.nodes {
			for g := range 4 {
				want(t, fmt.Sprintf("node %d of %d, group %d", id, nodes, g), n.Done(g, 0), c.nodes[0].Done(g, 0))
				want(t, fmt.Sprintf("node %d of %d, group %d", id, nodes, g), dumpOf(n, g), dumpOf(c.nodes[0], g))
			}
		}
	}
}

// A move of a range, from one shard into one that served nothing: what is frozen in the one is imported into the other, and the chart tells who serves it.
func TestMove(t *testing.T) {
	for _, every := range []int{0, 1, 3} {
		c := elected(t, 3, func(c *api.NodeConf) { c.Every = every })
		for i := range 3 {
			want(t, "send", c.ask(1, send(4, 1+i, lowName)), api.Reply{Seq: 1 + i})
		}
		at := place.Of(lowName)
		r := from(at, at+1)
		frozen := c.ask(1, api.Cmd{Kind: api.CmFreeze, Client: 9, Num: 1, Range: r})
		if frozen.Err != api.OK || len(frozen.Data) == 0 {
			t.Fatalf("freeze: %s", brief(frozen))
		}
		want(t, "frozen", c.ask(1, send(4, 4, lowName)), api.Reply{Err: api.ErrMoved})
		want(t, "not yet there", c.ask(3, send(4, 4, lowName)), api.Reply{Err: api.ErrMoved})
		want(t, "import", c.ask(3, api.Cmd{Kind: api.CmImport, Client: 9, Num: 2, Range: r, Data: frozen.Data}), api.Reply{About: []api.Range{r}})
		first, _ := chart.First(2)
		moved, _ := chart.Move(first, r, 3)
		text, _ := chart.Dump(moved)
		cmd := api.Cmd{Kind: api.CmChart, Client: 9, Num: 3, Range: r, To: 3}
		want(t, "chart", c.ask(0, cmd), api.Reply{N: 2, Data: []string{text}})
		want(t, "chart, once more", c.ask(0, cmd), api.Reply{N: 2, Data: []string{text}})
		want(t, "the same number, there", c.ask(3, send(4, 4, lowName)), api.Reply{Seq: 4})
		want(t, "what was answered ahead", c.ask(3, send(4, 3, lowName)), api.Reply{Err: api.ErrOld})
		receive := api.Cmd{Kind: api.CmReceive, Client: 5, Num: 1, Max: 10, Secs: 20}
		want(t, "receive", bodies(c.ask(3, receive).Got), []string{"4-1", "4-2", "4-3", "4-4"})
		want(t, "receive", bodies(c.ask(1, receive).Got), nil)
		c.tick(0)
		for id, n := range c.nodes {
			want(t, fmt.Sprint("node ", id), n.Chart(), moved)
			want(t, fmt.Sprint("node ", id), n.Shard(3).Engine().Served(), []api.Range{r})
			for g := range 4 {
				want(t, fmt.Sprintf("node %d, group %d", id, g), n.Done(g, 0), c.nodes[0].Done(g, 0))
			}
		}
		c.crashAll()
		c.elect(1)
		c.tick(1)
		for id, n := range c.nodes {
			want(t, fmt.Sprint("behind a crash, node ", id), n.Chart(), moved)
			want(t, fmt.Sprint("behind a crash, node ", id), n.Shard(3).Engine().Groups(0), []string{lowName})
		}
	}
}

// crashAll lets all nodes crash and restart.
func (c *cluster) crashAll() {
	c.t.Helper()
	for _, n := range c.nodes {
		crash(c.t, n)
	}
	for _, n := range c.nodes {
		restart(c.t, n)
	}
}

// Who was away for long is told that it is behind, pulls what another one's machine has, and goes on from there; who waits there is not answered by that.
func TestCatchUp(t *testing.T) {
	for _, isDown := range []bool{false, true} {
		for _, away := range []int{1, 2} {
			c := elected(t, 3, func(c *api.NodeConf) { c.Every = 4 })
			c.sendSome(1, 2)
			c.tick(0)
			c.off = away
			n := c.nodes[away]
			if isDown {
				crash(t, n)
			}
			c.sendSome(3, 9)
			c.ask(2, send(4, 1, highName))
			if isDown {
				restart(t, n)
			}
			c.off = nobody
			var kinds []int
			l := tick(c.nodes[0])
			for len(l) > 0 {
				p := l[0]
				l = append(l[1:], recv(t, c.nodes[p.To], p, 0)...)
				if p.Group == 1 && (p.From == away || p.To == away) {
					kinds = append(kinds, p.Kind*100+p.Msg.Kind)
				}
			}
			paxos := api.PkPaxos * 100
			want(t, "what goes to and fro", kinds, []int{paxos + api.MsBeat, paxos + api.MsAsk, paxos + api.MsBehind, api.PkPull * 100, api.PkSnap * 100})
			if r := n.Replica(1); r.Prefix() != 11 || r.Base() != 11 {
				t.Errorf("prefix %d, base %d", r.Prefix(), r.Base())
			}
			want(t, "its machine", dumpOf(n, 1), dumpOf(c.nodes[0], 1))
			want(t, "on its disk", onDisk(t, n, 1), dumpOf(c.nodes[0], 1))
			c.sendSome(12, 3)
			c.tick(0)
			should := c.nodes[0].Done(1, 11)
			if !isDown {
				should = append(c.nodes[0].Done(1, 0)[:2], should...)
			}
			want(t, "done", n.Done(1, 0), should)
			want(t, "done from 2 on", n.Done(1, 2), c.nodes[0].Done(1, 11))
			want(t, "group 2", n.Done(2, 0), c.nodes[0].Done(2, 0))
		}
	}
}

// Words: what a machine has by a snap was not applied here: who waited for it goes on waiting.
func TestSnapAnswersNobody(t *testing.T) {
	c := elected(t, 3, func(c *api.NodeConf) { c.Every = 1 })
	cmd := send(4, 1, lowName)
	recv(t, c.nodes[0], askOf(0, 1, cmd), 5)
	c.off = 0
	c.elect(1)
	c.run(askOf(1, 1, cmd))
	c.run(askOf(1, 1, send(4, 2, lowName)))
	c.off = nobody
	wantPackets(t, "it pulls", c.tick(1))
	if r := c.nodes[0].Replica(1); r.Base() != 2 || len(c.nodes[0].Done(1, 0)) != 0 {
		t.Fatalf("base %d, done %s", r.Base(), brief(c.nodes[0].Done(1, 0)))
	}
	// Number 1 still waits at node 0, which answers it as it is chosen once more.
	wantPackets(t, "both", c.run(askOf(1, 1, cmd)), answer(1, 1, 4, 1, api.Reply{Err: api.ErrOld}), answer(0, 1, 4, 1, api.Reply{Err: api.ErrOld}))
}
